/-
  tarjan: parts put in order: the walk.
-/
import Derived.Test.YtpdidgacmikllaaTj5
import Derived.Deep.LoopGhost
namespace Go.Proofs.Ytpdidgacmikllaa.tj
open Go.RowKit Go.Proofs.Ytpdidgacmikllaa.mem

def OrPost (g : G) (w : World) (e : Ending) (W : World) : Prop := ∃ Al cl lrows, e = .returned (.slice Al (List.length lrows) cl) ∧ lrows.map (·.xs) = g.parts ∧ Seg W 32 Al cl (lrows.map hdr) ∧ (∀ r ∈ lrows, Rd W r.A (natI r.xs)) ∧ Below w.heap.size w W

theorem p1_new (w : World) (K : Nat) : P1 w ((w.alloc (.cells (iv (fun _ => 0) K) 3)).alloc (.cells (rv (fun _ => row0) K) 32)) K w.heap.size (w.heap.size + 1) (fun _ => row0) [] := by
  have h1 : Box (w.alloc (.cells (iv (fun _ => 0) K) 3)) w.heap.size 3 (iv (fun _ => 0) K) := Box.new _ _ _
  have h2 : Box ((w.alloc (.cells (iv (fun _ => 0) K) 3)).alloc (.cells (rv (fun _ => row0) K) 32)) (w.heap.size + 1) 32 (rv (fun _ => row0) K) := by
    have := Box.new (w.alloc (.cells (iv (fun _ => 0) K) 3)) 32 (rv (fun _ => row0) K)
    rwa [World.size_alloc] at this
  refine ⟨?_, rg_new (w := w) h2 (by omega) (fun x hx => by rw [List.mem_singleton] at hx; subst hx; simp; omega) (by simp), fun q _ => by simp [row0, backL], Nat.le_refl _, ((Below.refl w.heap.size w).alloc (Nat.le_refl _) _).alloc (by simp) _⟩
  have := h1.kept ((Fr.refl [] _).alloc (.cells (rv (fun _ => row0) K) 32)) (by simp)
  simpa [leadN] using this

set_option maxRecDepth 100000 in
set_option maxHeartbeats 4000000 in
theorem ordered_any (g : G) (hg : g.ok) (hn : g.n ≤ 100) (hE : g.E.length ≤ 1000) (w : World) (T : TS) (o : Nat) (Aq : Option Addr) (cq tp : Nat) (rows : List Row) (h : GM w w.heap.size g T o Aq cq tp rows) :
    Calls Try.prog 22 #[.slice (some ⟨o, 0, none⟩) g.n g.n, .slice Aq T.parts.length cq, .slice (some ⟨tp, 0, none⟩) g.n g.n] w (OrPost g w) := by
  obtain ⟨K, hK⟩ : ∃ K, Hid (T.parts.length = K) := ⟨_, Lib.hid rfl⟩
  have hKn : K ≤ g.n := by rw [← hK.out]; exact h.pd.parts_le
  have hmk := run_make_row' (P := Try.prog) 32 3 (.int .i64 0) 8 Try.underlying32 info_int rfl .i64 .i64 K (by omega) (by omega)
  rw [made_iv] at hmk
  have hmk2 := run_make_row' (P := Try.prog) 25 32 (.slice none 0 0) 24 Try.underlying25 info_row2 rfl .i64 .i64 K (by omega) (by omega)
  rw [made_rv] at hmk2
  obtain ⟨n, hN⟩ : ∃ n, Hid (g.n = n) := ⟨_, Lib.hid rfl⟩
  have hn' : n ≤ 100 := by rw [← hN.out]; exact hn
  have hKn' : K ≤ n := by rw [← hN.out]; exact hKn
  rw [hN.out, hK.out]
  have H := Lib.hid h
  have HG := Lib.hid hg
  have HEL := Lib.hid hE
  have hP0 := Lib.hid (p1_new w K)
  clear h hg hn hKn hE
  go_enter Try.func22, Try.ntmps22
  go_upto_region 3 with fail
  clear hmk hmk2
  have hP0 : Hid (P1 w ((w.alloc (.cells (iv (fun _ => 0) K) 3)).alloc (.cells (rv (fun _ => row0) K) 32)) K w.heap.size (w.heap.size + 1) (fun _ => row0) (T.cross (g.all 0))) := by
    have e : Hid (T.cross (g.all 0) = []) := Lib.hid (by simp [G.all, TS.cross])
    rw [e.out]; exact hP0
  generalize ((w.alloc (.cells (iv (fun _ => 0) K) 3)).alloc (.cells (rv (fun _ => row0) K) 32)) = w1 at *
  generalize hla : w.heap.size = la at *
  generalize hba : la + 1 = ba at *
  have HLA := Lib.hid hla
  have HLB := Lib.hid hba
  clear hla hba
  go_wp2_with fail
  go_loopw [28] (fun i wr => ∃ (m : Nat) (rws : Nat → Row), m ≤ n ∧ i = .int .i64 m ∧ Hid (P1 w wr K la ba rws (T.cross (g.all m)))) (fun i _ => n - (intOf i).toNat)
  case atStart => exact ⟨0, _, by omega, rfl, hP0⟩
  case round =>
    obtain ⟨m, rws, hm, rfl, hP⟩ := hrel
    clear hP0
    rename World => wr
    by_cases hmn : m < n
    · have d1 : decide ((m : Int) < (n : Int)) = true := decide_eq_true (by omega)
      have hmI : (m : Int) < (n : Int) := by omega
      obtain ⟨Ao, co, ko0, hro0, hbo0⟩ := H.out.om.row m (by rw [hN.out]; exact hmn)
      have HO := Lib.hid (And.intro hro0 hbo0)
      have hHO := H.out.om.lt
      have ko := (hP.out.on.cell (p := ⟨o, m, none⟩) (by rw [HLA.out]; exact hHO)).trans ko0
      obtain ⟨q, hq⟩ : ∃ q, Hid ((g.out m).length = q) := ⟨_, Lib.hid rfl⟩
      have hqb : q ≤ 1000 := by rw [← hq.out]; exact Nat.le_trans (g.out_le m) HEL.out
      rw [hq.out] at ko
      have hP1 : Hid (P1 w wr K la ba rws (T.cross (g.gone m 0))) := by
        have e : Hid (g.gone m 0 = g.all m) := Lib.hid (g.gone_zero m)
        rw [e.out]; exact hP
      clear ko0 hro0 hbo0 hHO hP
      go_wp2_with fail
      go_loopw [35] (fun i wr => ∃ (k : Nat) (rws : Nat → Row), k ≤ q ∧ i = .int .i64 k ∧ Hid (P1 w wr K la ba rws (T.cross (g.gone m k)))) (fun i _ => q - (intOf i).toNat)
      case atStart => exact ⟨0, _, by omega, rfl, hP1⟩
      case round =>
        obtain ⟨k, rws, hk, rfl, hP⟩ := hrel
        clear hP1 ko
        rename World => wr
        by_cases hkq : k < q
        · have d2 : decide ((k : Int) < (q : Int)) = true := decide_eq_true (by omega)
          have hkI : (k : Int) < (q : Int) := by omega
          have hkl : k < (g.out m).length := by rw [hq.out]; exact hkq
          obtain ⟨bo, oo, rfl, hlo, hco⟩ := HO.out.1 (by rw [natI_len]; omega)
          have hbl := HO.out.2 (by omega) bo (by simp [blk])
          have kt0 := hco k (by rw [natI_len]; exact hkl)
          have hgs := Lib.hid (g.gone_succ hkl)
          have htm := Lib.hid (List.getElem_mem hkl)
          have kt : wr.cell? ⟨bo, oo + k, none⟩ = some (.int .i64 (((g.out m)[k] : Nat) : Int)) := by
            rw [hP.out.on.cell (p := ⟨bo, oo + k, none⟩) (by rw [HLA.out]; exact hbl), kt0]
            simp [natI]
          clear kt0 hco hlo hbl
          generalize (g.out m)[k] = t at *
          have htn := (HG.out _ (g.mem_out.1 htm.out)).2
          have hmn' : m < g.n := by rw [hN.out]; exact hmn
          obtain ⟨pt1, pt2, _⟩ := H.out.pd.pt htn
          obtain ⟨pm1, pm2, _⟩ := H.out.pd.pt hmn'
          have hpl := H.out.pb
          have hbp : Box wr tp 3 (iv T.part g.n) := (hP.out.on.block tp (by rw [HLA.out]; exact hpl)).trans H.out.bp
          have HBP := Lib.hid hbp
          have ct := (hbp.cell t).trans (iv_at _ htn)
          have cm := (hbp.cell m).trans (iv_at _ hmn')
          rw [pt1] at ct
          rw [pm1] at cm
          have HPT := Lib.hid (And.intro pt1 pm1)
          rw [hK.out] at pt2 pm2
          have hcr := Lib.hid (T.cross_snoc (g.gone m k) (m, t))
          have htnI : (t : Int) < (n : Int) := by have := hN.out; omega
          have hcl : (T.cross (g.gone m k)).length ≤ 2000 := Nat.le_trans (T.cross_le _) (Nat.le_trans (g.gone_le HG.out m k) (by have := HEL.out; omega))
          have hcr : Hid (T.cross (g.gone m (k + 1)) = T.cross (g.gone m k) ++ (if T.pt t = T.pt m then [] else [(T.pt m, T.pt t)])) := Lib.hid (by rw [hgs.out]; exact hcr.out)
          clear pt1 pm1 hgs htm hmn' hbp
          generalize T.pt t = b at *
          generalize T.pt m = a at *
          generalize hX : T.cross (g.gone m k) = X at *
          have HX := Lib.hid hX
          clear hX
          by_cases hab : b = a
          · subst hab
            have d3 : ((b : Int) != (b : Int)) = false := by simp
            have hP2 : Hid (∀ i, P1 w (wr.drewN i) K la ba rws (T.cross (g.gone m (k + 1)))) := Lib.hid (fun i => by rw [hcr.out, if_pos rfl, List.append_nil]; exact hP.out.below (((Fr.refl [] wr).drewN i).all))
            clear hcr hP
            go_wp2_with fail
            go_quiet (fail)
            go_wp2_with fail
            go_roundw
            case rel => exact ⟨k + 1, rws, by omega, by go_num, Lib.hid (hP2.out _)⟩
            case measure => simp [intOf]; omega
          · have d3 : ((b : Int) != (a : Int)) = true := by simp; omega
            have hcr2 : Hid (T.cross (g.gone m (k + 1)) = X ++ [(a, b)]) := Lib.hid (by rw [hcr.out, if_neg hab])
            have hla0 := (hP.out.bl.cell a).trans (iv_at _ pm2)
            have hlaf := hP.out.bl.free a
            have hlx : leadN X a ≤ 2000 := Nat.le_trans (leadN_le X a) hcl
            have hwr : IntKind.i64.wrap ((leadN X a : Int) + 1) = ((leadN X a + 1 : Nat) : Int) := by
              rw [show ((leadN X a + 1 : Nat) : Int) = (leadN X a : Int) + 1 by omega]
              exact IntWalk.i64_in _ (by omega)
            have hbx : (backL X b).length ≤ 2000 := Nat.le_trans (backL_le X b) hcl
            have haI : (a : Int) < (K : Int) := by omega
            have hbI : (b : Int) < (K : Int) := by omega
            clear hcr hcl
            go_wp2_with fail
            go_quiet (fail)
            rename Nat => nq
            have hP2 := Lib.hid ((hP.out.below (((Fr.refl [] wr).drewN nq).all)).lead a)
            have HBP2 : Hid (Box (wr.drewN nq) tp 3 (iv T.part g.n)) := Lib.hid HBP.out
            clear HBP kt
            go_upto_region 11 with fail
            rw [show ((leadN X a : Int) + 1) = ((leadN X a + 1 : Nat) : Int) from rfl]
            have HPL := Lib.hid hpl
            clear HBP2 hla0 hlaf hwr ct cm hP
            generalize (wr.drewN nq).setCell ⟨la, a, none⟩ (.int .i64 ((leadN X a + 1 : Nat) : Int)) = w5 at *
            have hbp5 : Box w5 tp 3 (iv T.part g.n) := (hP2.out.on.block tp (by rw [HLA.out]; exact hpl)).trans H.out.bp
            have HBP5 := Lib.hid hbp5
            have ct : w5.cell? ⟨tp, t, none⟩ = some (.int .i64 (b : Int)) := by rw [(hbp5.cell t).trans (iv_at _ htn), HPT.out.1]
            have cm : w5.cell? ⟨tp, m, none⟩ = some (.int .i64 (a : Int)) := by rw [(hbp5.cell m).trans (iv_at _ (by rw [hN.out]; exact hmn)), HPT.out.2]
            have hz5 := hbp5.lt
            have hb5 := hP2.out.rg.bx.lt
            have hb5' := hb5
            have hs5 := hP2.out.on.size
            have ko : w5.cell? ⟨ba, b, none⟩ = some (.slice (rws b).A (rws b).xs.length (rws b).cap) := (hP2.out.rg.slot pt2 (Fr.refl _ w5)).1
            obtain ⟨i0, hi0, hz0, hz1, hz2⟩ := info_parts info_int
            have Hi := Lib.hid hi0
            have Hz0 := Lib.hid hz0
            have Hz1 := Lib.hid hz1
            have Hz2 := Lib.hid hz2
            have hle : Hid ((rws b).xs.length = (natI (rws b).xs).length) := Lib.hid (by rw [natI_len])
            have hxl : (rws b).xs.length ≤ 2000 := by rw [hP2.out.xs b pt2]; exact hbx
            have h63 : (rws b).xs.length + 1 ≤ 9223372036854775807 := by omega
            have hby : ((rws b).xs.length + 1) * 8 ≤ 140737488355328 := by omega
            clear hi0 hz0 hz1 hz2 hbp5 hs5
            go_wp2_with fail
            go_region_law
              ((refine step_push (u := .int .i64 (a : Nat)) (by rfl) (.tmp 68) (.tmp 73) _ (by rfl) ((hP2.out.rg.sg b pt2).drew.alloc _) hle.out Try.underlying32 Hi.out Hz0.out Hz1.out Hz2.out rfl (by rfl) (by rfl) (new_cell _ _ _) rfl h63 hby ?_; intro A2 cap2 w6 hs2 f2 hb2; have f6 := ((Fr.refl (blk (rws b).A) w5).drew.alloc _).trans f2 (fun g hg => Or.inl hg) (fun g hg => Or.inl hg); have q2 := hP2.out.rg.slot pt2 f6; have k2 := q2.1; have p2 := q2.2; have e2 := HBP5.out.kept f6 (fun hm => by have := hP2.out.rg.ge b pt2 tp hm; rw [HLA.out] at this; have := HPL.out; omega); have e3 : w6.cell? ⟨tp, t, none⟩ = some (.int .i64 (b : Int)) := by rw [(e2.cell t).trans (iv_at _ htn), HPT.out.1]))
            all_goals
              have hp6 : Hid (P1 w (w6.setCell ⟨ba, b, none⟩ (.slice A2 ((rws b).xs.length + 1) cap2)) K la ba (upd rws b ⟨A2, cap2, (rws b).xs ++ [a]⟩) (T.cross (g.gone m (k + 1)))) := Lib.hid (by
                rw [hcr2.out]
                exact hP2.out.back pt2 rfl hs2 f6 (fun g hg => by
                  rcases hb2 with e | e
                  · exact Or.inl (e ▸ hg)
                  · rw [e, List.mem_singleton] at hg
                    subst hg
                    exact Or.inr (by simp [World.drew])))
              clear hs2 f2 f6 hb2 q2 k2 p2 e2 e3 ct cm ko hP2 HBP5 hz5 hb5 hb5'
              generalize w6.setCell ⟨ba, b, none⟩ (.slice A2 ((rws b).xs.length + 1) cap2) = w7 at *
              go_wp2_with fail
              go_roundw
              case rel => exact ⟨k + 1, _, by omega, by go_num, hp6⟩
              case measure => simp [intOf]; omega
        · obtain rfl : k = q := by omega
          have d2 : decide ((k : Int) < (k : Int)) = false := decide_eq_false (by omega)
          have hP2 : Hid (P1 w wr K la ba rws (T.cross (g.all (m + 1)))) := by
            have e : Hid (g.gone m k = g.all (m + 1)) := Lib.hid (by rw [← hq.out]; exact g.gone_all m)
            rw [← e.out]; exact hP
          clear hP
          go_wp2_with fail
          go_roundw
          case rel => exact ⟨m + 1, rws, by omega, by go_num, hP2⟩
          case measure => simp [intOf]; omega
    · obtain rfl : m = n := by omega
      have d1 : decide ((m : Int) < (m : Int)) = false := decide_eq_false (by omega)
      go_upto_region 14 with fail
      have hX : Hid (T.cross (g.all m) = T.cross (g.all g.n)) := Lib.hid (by rw [hN.out])
      have hp3 := hP.out.p3
      have hxs := hP.out.xs
      have hpl := H.out.pb
      have HPL : Hid (tp < w.heap.size) := Lib.hid (by rw [HLA.out]; exact hpl)
      rw [hX.out] at hp3 hxs
      have hp3 := Lib.hid hp3
      have hcx := cross_lt HG.out H.out.pd
      clear hP hpl hX
      generalize hXX : T.cross (g.all g.n) = X at *
      have HX := Lib.hid hXX
      have HXS := Lib.hid hxs
      have HCX := Lib.hid hcx
      clear hxs hcx
      have HXB : X.length ≤ 1000 := by rw [← hXX]; exact Nat.le_trans (T.cross_le _) (Nat.le_trans (g.all_le HG.out _) HEL.out)
      clear hXX
      go_upto_region 15 with fail
      generalize wr.heap.size = h at *
      generalize wr.alloc (.cells #[.slice none 0 0] 60) = w2 at *
      have hp4 : Hid (P3 w w2 K la ba h none 0 [] none 0 [] (leadN X) rws ∧ Hp [] ∧ ([] : List Nat).Perm (T.rdyTo X 0)) := Lib.hid ⟨hp3.out, fun i _ hi => by simp at hi, by simp [TS.rdyTo]⟩
      clear hp3
      go_wp2_with fail
      go_loopw [82] (fun i wr => ∃ (p : Nat) (A : Option Addr) (c : Nat) (xs : List Nat), p ≤ K ∧ i = .int .i64 p ∧ Hid (P3 w wr K la ba h A c xs none 0 [] (leadN X) rws ∧ Hp xs ∧ xs.Perm (T.rdyTo X p))) (fun i _ => K - (intOf i).toNat)
      case atStart => exact ⟨0, _, _, _, by omega, rfl, hp4⟩
      case round =>
        obtain ⟨p, A, c, xs, hp, rfl, hI⟩ := hrel
        clear hp4
        rename World => wr
        by_cases hpK : p < K
        · have d2 : decide ((p : Int) < (K : Int)) = true := decide_eq_true (by omega)
          have hpI : (p : Int) < (K : Int) := by omega
          have cl0 := (hI.out.1.bl.cell p).trans (iv_at _ hpK)
          have hsu := Lib.hid (T.rdyTo_succ X p)
          by_cases hz : leadN X p = 0
          · have d3 : (((leadN X p : Nat) : Int) == 0) = true := by rw [hz]; rfl
            obtain ⟨bq, oq, br, or_, len, cap, hAq, hbq, hbr, hlen, cq1, cq2, _⟩ := (H.out.on (by rw [← HLA.out]; exact hI.out.1.on)).first (q := p) (by rw [hK.out]; exact hpK)
            have hlI : (0 : Int) < (len : Int) := by omega
            obtain ⟨x, hx⟩ : ∃ x, Hid (x = T.lst p) := ⟨_, Lib.hid rfl⟩
            rw [← hx.out] at cq2
            have hxl : xs.length ≤ 900 := by rw [hI.out.2.2.length_eq]; exact Nat.le_trans (T.rdyTo_len X p) (by omega)
            have KP := Lib.hid (hpush_any wr h A c xs hI.out.1.lh hI.out.2.1 hxl x)
            rw [hAq]
            go_wp2_with fail
            refine KP.out.mono ?_
            rintro e w3 ⟨rfl, ys, y1, y2, y3⟩
            obtain ⟨A', c', hp'⟩ := hI.out.1.heap y3
            have hI2 : Hid (P3 w w3 K la ba h A' c' ys none 0 [] (leadN X) rws ∧ Hp ys ∧ ys.Perm (T.rdyTo X (p + 1))) := Lib.hid ⟨hp', y1, by
              rw [hsu.out, if_pos hz, ← hx.out]
              exact y2.trans ((hI.out.2.2.cons x).trans (List.perm_append_comm (l₁ := [x]) (l₂ := T.rdyTo X p)))⟩
            clear hI hsu hz y1 y2 y3 hp' KP cl0 cq1 cq2 hAq
            go_wp2_with fail
            go_roundw
            case rel => exact ⟨p + 1, _, _, _, by omega, by go_num, hI2⟩
            case measure => simp [intOf]; omega
          · have d3 : (((leadN X p : Nat) : Int) == 0) = false := by simp; omega
            have hI2 : Hid (P3 w wr K la ba h A c xs none 0 [] (leadN X) rws ∧ Hp xs ∧ xs.Perm (T.rdyTo X (p + 1))) := Lib.hid ⟨hI.out.1, hI.out.2.1, by rw [hsu.out, if_neg hz, List.append_nil]; exact hI.out.2.2⟩
            clear hI hsu hz
            go_wp2_with fail
            go_roundw
            case rel => exact ⟨p + 1, A, c, xs, by omega, by go_num, hI2⟩
            case measure => simp [intOf]; omega
        · obtain rfl : p = K := by omega
          have d2 : decide ((p : Int) < (p : Int)) = false := decide_eq_false (by omega)
          have hI2 : Hid (P3 w wr p la ba h A c xs none 0 [] (leadN X) rws ∧ KI g T X (fun _ => false) (leadN X) xs []) := Lib.hid ⟨hI.out.1, by
            have h1 := hI.out.2.2
            rw [← HX.out] at h1 ⊢
            exact ki_start HG.out hI.out.2.1 (by rw [← hK.out] at h1; exact h1)⟩
          clear hI
          go_wp2_with fail
          go_loopg [16] (g.parts.length - 0) (fun gk s16 wr => ∃ (D : Nat → Bool) (lead : Nat → Nat) (A : Option Addr) (c : Nat) (xs : List Nat) (Al : Option Addr) (cl : Nat) (lrows : List Row), gk = g.parts.length - lrows.length ∧ s16 = .slice Al lrows.length cl ∧ Hid (P3 w wr p la ba h A c xs Al cl lrows lead rws ∧ KI g T X D lead xs (lrows.map (·.xs)) ∧ ∀ r ∈ lrows, r ∈ rows))
          case atStart => exact ⟨_, _, _, _, _, _, _, [], rfl, rfl, Lib.hid ⟨hI2.out.1, hI2.out.2, by simp⟩⟩
          case round =>
            obtain ⟨D, lead, A, c, xs, Al, cl, lrows, hgk, rfl, hI⟩ := hrel
            have HGK := Lib.hid hgk
            clear hI2 hgk
            rename World => wr
            have ch : wr.cell? ⟨h, 0, none⟩ = some (.slice A xs.length c) := hI.out.1.lh.bx.cell 0
            have KL := Lib.hid (len_any wr A c xs.length)
            have hsm := hI.out.2.1.small HG.out
            obtain ⟨q, hq⟩ : ∃ q, Hid (xs.length = q) := ⟨_, Lib.hid rfl⟩
            have hq100 : q ≤ 100 := by rw [← hq.out]; have := hK.out; omega
            obtain ⟨nl, hnl⟩ : ∃ nl, Hid (lrows.length = nl) := ⟨_, Lib.hid rfl⟩
            have hnl100 : nl ≤ 100 := by rw [← hnl.out]; have := hsm.2; rw [List.length_map] at this; have := hN.out; omega
            rw [hq.out] at ch KL
            rw [hnl.out]
            clear hsm
            by_cases hx0 : q = 0
            · subst hx0
              obtain rfl : xs = [] := List.length_eq_zero_iff.1 hq.out
              have fin : Hid (OrPost g w (.returned (.slice Al nl cl)) wr) := Lib.hid ⟨Al, cl, lrows, by rw [hnl.out], by
                have := hI.out.2.1
                rw [← HX.out] at this
                exact ki_end HG.out H.out.pd this, hI.out.1.sl, fun r hr => (H.out.on (by rw [← HLA.out]; exact hI.out.1.on)).rd r (hI.out.2.2 r hr), hI.out.1.on⟩
              clear hI
              go_wp2_with fail
              refine KL.out.mono ?_
              rintro e w3 ⟨rfl, he⟩
              obtain rfl : wr = w3 := he.symm
              clear KL
              go_wp2_with fail
              go_ret
              exact fin.out
            · have hq0 : 0 < q := by omega
              have hqI : (0 : Int) < (q : Int) := by omega
              have d4 : decide ((0 : Int) < (q : Int)) = true := decide_eq_true hqI
              have d4' : decide (0 < q) = true := decide_eq_true hq0
              have KO := Lib.hid (hpop_any wr h A c xs hI.out.1.lh hI.out.2.1.heap (by rw [hq.out]; exact hq0) (by rw [hq.out]; omega))
              have hmin := Lib.hid hI.out.2.1.heap.least
              generalize hx : gd xs 0 = x at *
              have hxx := Lib.hid hx
              clear hx
              have hta := ta_int (x : Int)
              go_wp2_with fail
              refine KL.out.mono ?_
              rintro e w3 ⟨rfl, he⟩
              obtain rfl : wr = w3 := he.symm
              clear KL
              go_wp2_with fail
              refine KO.out.mono ?_
              rintro e w3 ⟨he, ys, y1, y2, y3⟩
              rw [hxx.out] at he y2
              subst he
              obtain ⟨A', c', hp'⟩ := hI.out.1.heap y3
              have hkp := ki_pop HG.out H.out.pd (by have := hI.out.2.1; rw [← HX.out] at this; exact this) y1 y2 hmin.out
              rw [HX.out] at hkp
              obtain ⟨hxn, hkm, hpx⟩ := hkp
              have HP3 := Lib.hid hp'
              have HKM := Lib.hid hkm
              have HLR := Lib.hid hI.out.2.2
              have hgm := H.out.on (by rw [← HLA.out]; exact hp'.on)
              obtain ⟨px1, px2, _⟩ := H.out.pd.pt hxn
              obtain ⟨bq, oq, br, or_, len, cap, hAq, hbq, hbr, hlen, cq1, cq2, r, hr1, hr2, hr3⟩ := hgm.first px2
              have cx : w3.cell? ⟨tp, x, none⟩ = some (.int .i64 ((T.pt x : Nat) : Int)) := by rw [(hgm.bp.cell x).trans (iv_at _ hxn), px1]
              have hr4 : r.xs = g.cls x := by
                obtain ⟨l1, l2, _⟩ := H.out.pd.lst px2
                have := (H.out.pd.pt l1).2.2
                rw [l2, hpx] at this
                rw [hr3]
                exact (Option.some.inj this).symm
              have HR := Lib.hid (And.intro hr1 (And.intro hr2 hr4))
              rw [hK.out] at px2
              have hxI : (x : Int) < (m : Int) := by have := hN.out; omega
              clear hI hmin y1 y2 y3 hp' hkm hpx px1 cq2 hgm hr1 hr2 hr3 hr4 KO hxx ch
              generalize T.pt x = pp at *
              have hpI : (pp : Int) < (p : Int) := by omega
              obtain ⟨i0, hi0, hz0, hz1, hz2⟩ := info_parts info_row2
              have Hi := Lib.hid hi0
              have Hz0 := Lib.hid hz0
              have Hz1 := Lib.hid hz1
              have Hz2 := Lib.hid hz2
              have hsg := Lib.hid (HP3.out.sl.alloc (.cells #[.slice (some ⟨br, or_, none⟩) len cap] 32))
              have hlen2 : Hid (nl = (lrows.map hdr).length) := Lib.hid (by rw [List.length_map, hnl.out])
              have cb0 := (HP3.out.bb.cell pp).trans (rv_at _ px2)
              clear hi0 hz0 hz1 hz2
              rw [hAq]
              have HAQ := Lib.hid hAq
              have cb : w3.cell? ⟨ba, pp, none⟩ = some (.slice (rws pp).A (rws pp).xs.length (rws pp).cap) := cb0
              have hbb := HP3.out.bb.lt
              go_wp2_with (at_builtin
                           refine wpList_push (u := .slice (some ⟨br, or_, none⟩) len cap) rfl (.tmp 113) (.tmp 118) _ rfl hsg.out hlen2.out Try.underlying25 Hi.out Hz0.out Hz1.out Hz2.out rfl rfl rfl (new_cell _ _ _) rfl (by omega) (by omega) ?_
                           intro A5 c5 w5 hs5 f5 b5
                           have Q := HP3.out.put (W' := w5) (r := r) (by rw [HR.out.2.1]; exact hs5) (((Fr.refl [] w3).alloc _).trans f5 (by simp) (fun g hg => Or.inl hg)) (fun g hg => by
                             rcases b5 with e | e
                             · exact Or.inl (e ▸ hg)
                             · rw [e, List.mem_singleton] at hg
                               subst hg
                               exact Or.inr (by simp))
                           have hQ := Lib.hid Q
                           have cb5 : w5.cell? ⟨ba, pp, none⟩ = some (.slice (rws pp).A (rws pp).xs.length (rws pp).cap) := (Q.bb.cell pp).trans (rv_at _ px2)
                           clear Q hs5 f5 b5 cb)
              have hrx := HXS.out pp px2
              obtain ⟨qb, hqb⟩ : ∃ qb, Hid ((rws pp).xs.length = qb) := ⟨_, Lib.hid rfl⟩
              obtain ⟨Ab, hAb⟩ : ∃ Ab, Hid ((rws pp).A = Ab) := ⟨_, Lib.hid rfl⟩
              have hqbb : qb ≤ 1000 := by rw [← hqb.out, hrx]; exact Nat.le_trans (backL_le X pp) HXB
              have HRX := Lib.hid hrx
              rw [hqb.out, hAb.out]
              have hM : Hid (P3 w w5 p la ba h A' c' ys A5 c5 (lrows ++ [r]) lead rws ∧ KM g T X D pp 0 lead ys ((lrows ++ [r]).map (·.xs))) := Lib.hid ⟨hQ.out, by
                have := HKM.out
                rw [List.map_append, List.map_singleton, HR.out.2.2]
                exact this⟩
              have hlt : Hid (g.parts.length - (lrows ++ [r]).length < gk) := Lib.hid (by
                have h1 := (HKM.out.small HG.out).2.1
                have h2 := HGK.out
                simp at h1 ⊢
                omega)
              have hlen3 : Hid ((lrows ++ [r]).length = nl + 1) := Lib.hid (by simp [hnl.out])
              have HLR2 : Hid (∀ x ∈ lrows ++ [r], x ∈ rows) := Lib.hid (fun x hx => by
                rcases List.mem_append.1 hx with hx | hx
                · exact HLR.out x hx
                · rw [List.mem_singleton] at hx; rw [hx]; exact HR.out.1)
              clear hQ HKM HLR HR hrx cb5 hsg hlen2 HP3 cx cq1 hta Hi Hz0 Hz1 Hz2 HGK hbb hAq cb0
              go_loopw [125] (fun i wr => ∃ (k : Nat) (lead : Nat → Nat) (A : Option Addr) (c : Nat) (xs : List Nat), k ≤ qb ∧ i = .int .i64 k ∧ Hid (P3 w wr p la ba h A c xs A5 c5 (lrows ++ [r]) lead rws ∧ KM g T X D pp k lead xs ((lrows ++ [r]).map (·.xs)))) (fun i _ => qb - (intOf i).toNat)
              case atStart => exact ⟨0, _, _, _, _, by omega, rfl, hM⟩
              case round =>
                obtain ⟨k, lead, A, c, xs, hk, rfl, hI⟩ := hrel
                clear hM
                rename World => wr
                by_cases hkq : k < qb
                · have d5 : decide ((k : Int) < (qb : Int)) = true := decide_eq_true (by omega)
                  have hkI : (k : Int) < (qb : Int) := by omega
                  have hlq : k < (natI (rws pp).xs).length := by rw [natI_len, hqb.out]; exact hkq
                  obtain ⟨gb, ob, hA2, hgb, hcb⟩ := hI.out.1.br pp px2 (by omega)
                  rw [hAb.out] at hA2
                  subst hA2
                  have hkb : k < (backL X pp).length := by rw [← HRX.out, hqb.out]; exact hkq
                  have cb : wr.cell? ⟨gb, ob + k, none⟩ = some (.int .i64 (((backL X pp)[k] : Nat) : Int)) := by
                    rw [hcb k hlq]
                    have e : (rws pp).xs[k]? = (backL X pp)[k]? := by rw [HRX.out]
                    simp [hkb, show k < (rws pp).xs.length by rw [hqb.out]; exact hkq] at e
                    simp [natI, e]
                  obtain ⟨b, hb⟩ : ∃ b, Hid ((backL X pp)[k]? = some b) := ⟨_, Lib.hid (List.getElem?_eq_getElem hkb)⟩
                  have hbe : (backL X pp)[k] = b := by have := hb.out; rw [List.getElem?_eq_getElem hkb] at this; exact Option.some.inj this
                  rw [hbe] at cb
                  obtain ⟨hbK, hb0, hst1, hst2⟩ := km_step HCX.out hI.out.2 hb.out
                  have hst1 := Lib.hid hst1
                  have hst2 := Lib.hid hst2
                  have hbl := (hI.out.2.small HG.out).2.2 b
                  have hxl := (hI.out.2.small HG.out).1
                  have hHP := Lib.hid hI.out.2.heap
                  have HBK := Lib.hid hbK
                  rw [hK.out] at hbK hxl
                  have hbI : (b : Int) < (p : Int) := by omega
                  have cl0 := (hI.out.1.bl.cell b).trans (iv_at _ hbK)
                  have hlf := hI.out.1.bl.free b
                  have hp1 := Lib.hid (hI.out.1.setLead b (lead b - 1))
                  clear hlq hgb hcb hkb hbe hb hI
                  generalize hv : lead b = v at *
                  have hv1 : (1 : Int) ≤ (v : Int) := by omega
                  clear hv
                  go_upto_region 29 with fail
                  have hsub : ((v : Int) - 1) = ((v - 1 : Nat) : Int) := by omega
                  rw [hsub]
                  clear hsub
                  generalize wr.setCell ⟨la, b, none⟩ (.int .i64 ((v - 1 : Nat) : Int)) = w7 at *
                  generalize hu : v - 1 = u at *
                  have huv := Lib.hid (show v = u + 1 by omega)
                  clear hu cb cl0 hlf hv1
                  have cl7 : w7.cell? ⟨la, b, none⟩ = some (.int .i64 (u : Int)) := by
                    have := (hp1.out.bl.cell b).trans (iv_at _ hbK)
                    rw [upd_same] at this
                    exact this
                  by_cases hu0 : u = 0
                  · subst hu0
                    have d6 : (((0 : Nat) : Int) == 0) = true := rfl
                    obtain ⟨bq2, oq2, br, or_, len, cap, hAq2, hbq, hbr, hlen, cq1, cq2, _⟩ := (H.out.on (by rw [← HLA.out]; exact hp1.out.on)).first HBK.out
                    rw [HAQ.out] at hAq2
                    obtain ⟨rfl, rfl⟩ : bq = bq2 ∧ oq = oq2 := by simpa using hAq2
                    have hlI : (0 : Int) < (len : Int) := by omega
                    obtain ⟨x, hx⟩ : ∃ x, Hid (x = T.lst b) := ⟨_, Lib.hid rfl⟩
                    rw [← hx.out] at cq2
                    have KP := Lib.hid (hpush_any w7 h A c xs hp1.out.lh hHP.out (by omega) x)
                    have hst := Lib.hid (hst2.out (by have := huv.out; omega))
                    clear hAq2 hst1 hst2
                    go_wp2_with fail
                    refine KP.out.mono ?_
                    rintro e w8 ⟨rfl, zs, y1, y2, y3⟩
                    obtain ⟨A8, c8, hp8⟩ := hp1.out.heap y3
                    have hI2 : Hid (P3 w w8 p la ba h A8 c8 zs A5 c5 (lrows ++ [r]) (upd lead b 0) rws ∧ KM g T X D pp (k + 1) (upd lead b 0) zs ((lrows ++ [r]).map (·.xs))) := Lib.hid ⟨hp8, hst.out zs y1 (by rw [← hx.out]; exact y2)⟩
                    clear y1 y2 y3 hp8 KP hst hp1 cq1 cq2 cl7 hHP
                    go_wp2_with fail
                    go_roundw
                    case rel => exact ⟨k + 1, _, _, _, _, by omega, by go_num, hI2⟩
                    case measure => simp [intOf]; omega
                  · have d6 : ((u : Int) == 0) = false := by simp; omega
                    have hI2 : Hid (P3 w w7 p la ba h A c xs A5 c5 (lrows ++ [r]) (upd lead b u) rws ∧ KM g T X D pp (k + 1) (upd lead b u) xs ((lrows ++ [r]).map (·.xs))) := Lib.hid ⟨hp1.out, hst1.out (by have := huv.out; omega)⟩
                    clear hst1 hst2 hp1
                    go_wp2_with fail
                    go_roundw
                    case rel => exact ⟨k + 1, _, _, _, _, by omega, by go_num, hI2⟩
                    case measure => simp [intOf]; omega
                · obtain rfl : k = qb := by omega
                  have d5 : decide ((k : Int) < (k : Int)) = false := decide_eq_false (by omega)
                  have hki := hI.out.2
                  rw [← hqb.out, HRX.out] at hki
                  have hI2 : Hid (P3 w wr p la ba h A c xs A5 c5 (lrows ++ [r]) lead rws ∧ KI g T X (fun k => D k || k == pp) lead xs ((lrows ++ [r]).map (·.xs)) ∧ ∀ x ∈ lrows ++ [r], x ∈ rows) := Lib.hid ⟨hI.out.1, km_end hki, HLR2.out⟩
                  clear hI hki
                  go_wp2_with fail
                  rw [← HAQ.out]
                  go_roundg (g.parts.length - (lrows ++ [r]).length)
                  case rel => exact ⟨_, _, _, _, _, _, _, _, rfl, by rw [hlen3.out], hI2⟩
                  case measure => exact hlt.out
end Go.Proofs.Ytpdidgacmikllaa.tj
