/-
  tarjan: what is led to stands ahead: the law.
-/
import Derived.Test.YtpdidgacmikllaaTjB1
namespace Go.Proofs.Ytpdidgacmikllaa.tj
open Go.RowKit Go.Proofs.Ytpdidgacmikllaa.mem

/-- places told, as far as part i's k-th -/
structure BH (L : List (List Nat)) (i k : Nat) (f : Nat → Nat) : Prop where
  a : ∀ v, v ∉ (L.take i).flatten ++ (L.getD i []).take k → f v = 0
  b : ∀ j p v, j < i → L[j]? = some p → v ∈ p → f v = j + 1
  c : ∀ v, v ∈ (L.getD i []).take k → f v = i + 1

theorem bh_start (L : List (List Nat)) : BH L 0 0 (fun _ => 0) := ⟨fun _ _ => rfl, fun j p v h => by omega, fun v h => by simp at h⟩

theorem flat_mem {L : List (List Nat)} {j : Nat} {p : List Nat} {v : Nat} {i : Nat} (hj : j < i) (hp : L[j]? = some p) (hv : v ∈ p) : v ∈ (L.take i).flatten :=
  List.mem_flatten.2 ⟨p, List.mem_of_getElem? (by rw [List.getElem?_take, if_pos hj]; exact hp), hv⟩

theorem bh_no {L : List (List Nat)} (hn : L.flatten.Nodup) {i k : Nat} {p : List Nat} (hp : L[i]? = some p) {v : Nat} (hv : p[k]? = some v) : v ∉ (L.take i).flatten ++ (L.getD i []).take k := by
  have hi := (List.getElem?_eq_some_iff.1 hp).1
  have he : L.getD i [] = p := by rw [List.getD_eq_getElem?_getD, hp]; rfl
  have e : L.flatten = (L.take i).flatten ++ (p ++ (L.drop (i + 1)).flatten) := by
    have h1 : L = L.take i ++ (p :: L.drop (i + 1)) := by
      have h2 := (List.take_append_drop i L).symm
      rw [List.drop_eq_getElem_cons hi] at h2
      have h3 : L[i] = p := by rw [List.getElem?_eq_getElem hi] at hp; exact Option.some.inj hp
      rw [h3] at h2
      exact h2
    have h2 := congrArg List.flatten h1
    rw [List.flatten_append, List.flatten_cons] at h2
    exact h2
  rw [e, List.nodup_append] at hn
  obtain ⟨_, h2, h3⟩ := hn
  rw [List.nodup_append] at h2
  have hk := (List.getElem?_eq_some_iff.1 hv)
  have hvp : v ∈ p := List.mem_of_getElem? hv
  rw [he, List.mem_append]
  rintro (h | h)
  · exact h3 v h v (List.mem_append_left _ hvp) rfl
  · obtain ⟨q, hq, eq⟩ := List.getElem_of_mem h
    rw [List.getElem_take] at eq
    rw [List.length_take] at hq
    have := (List.getElem_inj h2.1).1 (eq.trans hk.2.symm)
    omega

theorem bh_step {L : List (List Nat)} (hn : L.flatten.Nodup) {i k : Nat} {f : Nat → Nat} (h : BH L i k f) {p : List Nat} (hp : L[i]? = some p) {v : Nat} (hv : p[k]? = some v) : f v = 0 ∧ BH L i (k + 1) (upd f v (i + 1)) := by
  have hno := bh_no hn hp hv
  have he : L.getD i [] = p := by rw [List.getD_eq_getElem?_getD, hp]; rfl
  obtain ⟨hk, hkv⟩ := List.getElem?_eq_some_iff.1 hv
  have ht : p.take (k + 1) = p.take k ++ [v] := by rw [List.take_succ_eq_append_getElem hk, hkv]
  refine ⟨h.a v hno, fun u hu => ?_, fun j q u hj hq hu => ?_, fun u hu => ?_⟩
  · rw [he, ht] at hu
    have hne : u ≠ v := fun e => hu (by rw [e]; simp)
    rw [upd_ne _ _ hne]
    refine h.a u fun h2 => hu ?_
    rw [he] at h2
    rcases List.mem_append.1 h2 with h2 | h2
    · exact List.mem_append_left _ h2
    · exact List.mem_append_right _ (List.mem_append_left _ h2)
  · have hne : u ≠ v := fun e => hno (by rw [← e]; exact List.mem_append_left _ (flat_mem hj hq hu))
    rw [upd_ne _ _ hne]
    exact h.b j q u hj hq hu
  · rw [he, ht] at hu
    by_cases e : u = v
    · subst e; rw [upd_same]
    · rw [upd_ne _ _ e]
      refine h.c u ?_
      rw [he]
      rcases List.mem_append.1 hu with hu | hu
      · exact hu
      · exact absurd (List.mem_singleton.1 hu) e

theorem bh_next {L : List (List Nat)} {i : Nat} {f : Nat → Nat} {p : List Nat} (hp : L[i]? = some p) (h : BH L i p.length f) : BH L (i + 1) 0 f := by
  obtain ⟨hi, hpe⟩ := List.getElem?_eq_some_iff.1 hp
  have he : L.getD i [] = p := by rw [List.getD_eq_getElem?_getD, hp]; rfl
  refine ⟨fun v hv => h.a v fun h2 => hv ?_, fun j q v hj hq hv => ?_, fun v hv => by simp at hv⟩
  · rw [List.take_succ_eq_append_getElem hi, hpe, List.flatten_append]
    rw [he, List.take_length] at h2
    simpa using h2
  · by_cases e : j = i
    · subst e
      rw [hp] at hq
      cases hq
      exact h.c v (by rw [he, List.take_length]; exact hv)
    · exact h.b j q v (by omega) hq hv

/-- an edge leads ahead or stays -/
theorem bh_edge {g : G} (hg : g.ok) {f : Nat → Nat} (h : BH g.parts g.parts.length 0 f) {a b : Nat} (he : (a, b) ∈ g.E) : ¬ f a < f b := by
  have hp := g.parts_parted hg
  have pos : ∀ v, v < g.n → ∃ j p, g.parts[j]? = some p ∧ v ∈ p ∧ f v = j + 1 := fun v hv => by
    obtain ⟨p, hpm, hvp⟩ := List.mem_flatten.1 ((hp.mem v).2 ⟨hv, rfl⟩)
    obtain ⟨j, hj, e⟩ := List.getElem_of_mem hpm
    have hq : g.parts[j]? = some p := by rw [List.getElem?_eq_getElem hj, e]
    exact ⟨j, p, hq, hvp, h.b j p v hj hq hvp⟩
  obtain ⟨i, p, p1, p2, p3⟩ := pos a (hg _ he).1
  obtain ⟨j, q, q1, q2, q3⟩ := pos b (hg _ he).2
  intro hlt
  exact hp.behind i j p q (by omega) p1 q1 a p2 b q2 he

/-- how many were told -/
def cntTo (L : List (List Nat)) (i k : Nat) : Nat := (L.take i).flatten.length + k
theorem cnt_next {L : List (List Nat)} {i : Nat} {p : List Nat} (hp : L[i]? = some p) : cntTo L i p.length = cntTo L (i + 1) 0 := by
  obtain ⟨hi, hpe⟩ := List.getElem?_eq_some_iff.1 hp
  unfold cntTo
  rw [List.take_succ_eq_append_getElem hi, hpe, List.flatten_append, List.length_append]
  simp
theorem cnt_le {L : List (List Nat)} {i k : Nat} {p : List Nat} (hp : L[i]? = some p) (hk : k ≤ p.length) : cntTo L i k ≤ L.flatten.length := by
  obtain ⟨hi, hpe⟩ := List.getElem?_eq_some_iff.1 hp
  have h1 : cntTo L i k ≤ cntTo L (i + 1) 0 := by rw [← cnt_next hp]; unfold cntTo; omega
  refine Nat.le_trans h1 ?_
  unfold cntTo
  have h2 := congrArg (fun L => (List.flatten L).length) (List.take_append_drop (i + 1) L)
  simp only [List.flatten_append, List.length_append] at h2
  omega

/-- places, in memory -/
structure BW (w W : World) (n ab : Nat) (f : Nat → Nat) : Prop where
  bx : Box W ab 3 (iv (fun v => (f v : Nat)) n)
  ge : w.heap.size ≤ ab
  on : Below w.heap.size w W

theorem BW.below {w W W' : World} {n ab : Nat} {f : Nat → Nat} (h : BW w W n ab f) (hb : Below W.heap.size W W') : BW w W' n ab f := ⟨h.bx.kept (Fr.of_below hb []) (by simp), h.ge, h.on.trans (hb.mono h.on.size)⟩
theorem BW.put {w W : World} {n ab : Nat} {f : Nat → Nat} (h : BW w W n ab f) (v x : Nat) : BW w (W.setCell ⟨ab, v, none⟩ (.int .i64 (x : Nat))) n ab (upd f v x) := by
  refine ⟨?_, h.ge, h.on.setCell (p := ⟨ab, v, none⟩) h.ge _⟩
  have := h.bx.put v (.int .i64 (x : Nat))
  rwa [iv_set, iv_upd_nat] at this

set_option maxRecDepth 100000 in
set_option maxHeartbeats 4000000 in
theorem law_behind (n : Int) (A : Option Addr) (cap : Nat) (l : List (Int × Int)) (w : World) (h : Eds w A l) :
    Calls Try.prog 5 #[.int .i64 n, .slice A l.length cap] w (SaPost true w) := by
  have KG0 := fun w1 => great_any n A cap l w1
  unfold GrPost at KG0
  have KW := Lib.hid works_any
  by_cases hgo : grB n l = true ∨ 60 < n
  · cases hg : grB n l with
    | true =>
      rw [hg] at KG0
      have KG := Lib.hid KG0
      clear h hg hgo KG0
      go_enter Try.func5, Try.ntmps5
      go_wp2_with fail
      refine (KW.out w).mono ?_
      rintro e w0 ⟨rfl, b0⟩
      go_wp2_with fail
      refine (KG.out w0).mono ?_
      rintro e w1 ⟨rfl, rfl⟩
      go_wp2_with fail
      go_ret
      exact ⟨rfl, b0⟩
    | false =>
      rw [hg] at KG0
      have KG := Lib.hid KG0
      have h60 : 60 < n := by
        rcases hgo with h1 | h1
        · rw [hg] at h1; cases h1
        · exact h1
      have d0 : decide (60 < n) = true := decide_eq_true h60
      clear h hg hgo KG0
      go_enter Try.func5, Try.ntmps5
      go_wp2_with fail
      refine (KW.out w).mono ?_
      rintro e w0 ⟨rfl, b0⟩
      go_wp2_with fail
      refine (KG.out w0).mono ?_
      rintro e w1 ⟨rfl, rfl⟩
      go_wp2_with fail
      go_ret
      exact ⟨rfl, b0⟩
  have hg : grB n l = false := by simpa using fun h1 => hgo (Or.inl h1)
  have hn : n ≤ 60 := by omega
  rw [hg] at KG0
  have KG := Lib.hid KG0
  have hl := (gr_small hg).1
  have d0 : decide (60 < n) = false := decide_eq_false (by omega)
  have KE := Lib.hid (fun w1 (hb : Below w.heap.size w w1) => edges_any A cap l (by omega) w1 (h.on hb))
  have KP := Lib.hid (fun w1 B c (he : Eds w1 B l) => parts_any n (by omega) B c l (by omega) w1 he)
  have KR := Lib.hid (fun w1 (hb : Below w.heap.size w w1) (P : Option Addr) pc (p : List Nat) (hpl : p.length ≤ 1000) (hp : ∀ x ∈ p, x < (gof n l).n ∧ ∀ y ∈ p, (gof n l).R x y = true) (hr : Rd w1 P (natI p)) => roundl_any n (by omega) A cap l (by omega) P pc p hpl hp w1 (h.on hb) hr)
  have H := Lib.hid h
  have hgok := Lib.hid (gof_ok n l)
  obtain ⟨m, hm⟩ : ∃ m, Hid ((gof n l).n = m) := ⟨_, Lib.hid rfl⟩
  have hm2 : Hid (n.toNat = m) := Lib.hid hm.out
  have hmb : m ≤ 60 := by have := hm2.out; omega
  have hmem : Hid (∀ a b : Nat, ((a : Int), (b : Int)) ∈ l → a < m → b < m → (a, b) ∈ (gof n l).E) := Lib.hid (fun a b h1 h2 h3 => gof_mem.2 ⟨by rw [hm2.out]; exact h2, by rw [hm2.out]; exact h3, h1⟩)
  have hmk := run_make_row' (P := Try.prog) 32 3 (.int .i64 0) 8 Try.underlying32 info_int rfl .i64 .i64 m (by omega) (by omega)
  rw [made_iv] at hmk
  obtain ⟨z, hz⟩ : ∃ z, Hid (l.length = z) := ⟨_, Lib.hid rfl⟩
  have hzb : z ≤ 200 := by rw [← hz.out]; exact hl
  clear h hg hgo hl KG0
  generalize gof n l = g at *
  rw [hz.out] at KG KE KR KP ⊢
  have hgl := Lib.hid (g.parts_len hgok.out)
  go_enter Try.func5, Try.ntmps5
  go_wp2_with fail
  refine (KW.out w).mono ?_
  rintro e w0 ⟨rfl, b0⟩
  have B0 := Lib.hid b0
  clear b0 KW
  go_wp2_with fail
  refine (KG.out w0).mono ?_
  rintro e w1 ⟨rfl, rfl⟩
  clear KG
  go_wp2_with fail
  refine (KE.out w0 B0.out).mono ?_
  rintro e w1 ⟨E1, c1, rfl, he1, _, hb1⟩
  have HE1 := Lib.hid he1
  have HB1 := Lib.hid (B0.out.trans (hb1.mono B0.out.size))
  clear he1 hb1 KE
  go_wp2_with fail
  refine (KP.out w1 E1 c1 HE1.out).mono ?_
  rintro e w2 ⟨A2, c2, rows, rfl, x2, s2, t2, b2⟩
  have HRR := Lib.hid (PaPost.rr hgok.out (by have := hm.out; omega) x2 s2 t2)
  have HX := Lib.hid x2
  have HB2 := Lib.hid (HB1.out.trans (b2.mono HB1.out.size))
  obtain ⟨K, hK⟩ : ∃ K, Hid (rows.length = K) := ⟨_, Lib.hid rfl⟩
  have hKb : K ≤ 60 := by rw [← hK.out]; have h1 := congrArg List.length x2; rw [List.length_map] at h1; have := hgl.out; have := hm.out; omega
  rw [hK.out]
  clear x2 s2 t2 b2 KP HE1
  go_upto_region 6 with fail
  go_cut [6] (fun s6 wx => ∃ ab, s6 = .slice (some ⟨ab, 0, none⟩) m m ∧ Hid (BW w2 wx m ab (fun _ => 0)))
  case first =>
    have hBW : Hid (BW w2 (w2.alloc (.cells (iv (fun _ => 0) m) 3)) m w2.heap.size (fun _ => 0)) := Lib.hid ⟨Box.new _ _ _, Nat.le_refl _, (Below.refl _ _).alloc (Nat.le_refl _) _⟩
    have hmx : max n 0 = (m : Int) := by have := hm2.out; omega
    go_wp2_with fail
    all_goals (go_meet; exact ⟨_, rfl, hBW⟩)
  obtain ⟨ab, rfl, hBW⟩ := hcut
  clear hmk
  rename World => w3
  obtain ⟨L, hL⟩ : ∃ L, Hid (g.parts = L) := ⟨_, Lib.hid rfl⟩
  have HX : Hid (rows.map (·.xs) = L) := Lib.hid (by rw [← hL.out]; exact HX.out)
  have hpt := g.parts_parted hgok.out
  have hfl : Hid (L.flatten.length = m) := Lib.hid (by rw [← hL.out, ← hm.out]; exact hpt.len)
  have hnd : Hid L.flatten.Nodup := Lib.hid (by rw [← hL.out]; exact hpt.nodup)
  have hcl : Hid (∀ p ∈ L, ∃ i, i < g.n ∧ p = g.cls i) := Lib.hid (fun p hp => by rw [← hL.out] at hp; exact (hpt.all p).1 hp)
  have hLK : Hid (L.length = K) := Lib.hid (by rw [← HX.out, List.length_map]; exact hK.out)
  clear hpt
  have hc0 : Hid (0 = cntTo L 0 0) := Lib.hid (by simp [cntTo])
  go_wp2_with fail
  go_loopw [7, 8] (fun s i wr => ∃ (q c : Nat) (f : Nat → Nat), q ≤ K ∧ s = .int .i64 c ∧ i = .int .i64 q ∧ Hid (c = cntTo L q 0) ∧ Hid (BW w2 wr m ab f) ∧ Hid (BH L q 0 f)) (fun _ i _ => K - (intOf i).toNat)
  case atStart => exact ⟨0, 0, _, by omega, rfl, rfl, hc0, hBW, Lib.hid (bh_start L)⟩
  case round =>
    obtain ⟨i, c, f, hi, rfl, rfl, hc, hW, hF⟩ := hrel
    clear hBW hc0
    rename World => wr
    by_cases hiK : i < K
    · have d1 : decide ((i : Int) < (K : Int)) = true := decide_eq_true (by omega)
      have hiI : (i : Int) < (K : Int) := by omega
      have hir : i < rows.length := by rw [hK.out]; exact hiK
      obtain ⟨bq, oq, rfl, hbq, hcq⟩ := HRR.out.1.at_ (by omega)
      have hr0 := hcq i hir
      have hrd := HRR.out.1.rd _ (List.getElem_mem hir)
      have hpi : Hid (L[i]? = some rows[i].xs) := Lib.hid (by rw [← HX.out]; simp [hir])
      clear hcq
      have hbq' := Lib.hid hbq
      generalize hr : rows[i] = r at *
      clear hr hir hbq
      obtain ⟨P, pc, p⟩ := r
      simp only at hr0 hrd hpi
      obtain ⟨np, hnp⟩ : ∃ np, Hid (p.length = np) := ⟨_, Lib.hid rfl⟩
      rw [hnp.out] at hr0
      have hpcl := hcl.out p (List.mem_of_getElem? hpi.out)
      have hpin : Hid (∀ x ∈ p, x < g.n ∧ ∀ y ∈ p, g.R x y = true) := Lib.hid (by
        obtain ⟨j, hj, rfl⟩ := hpcl
        intro x hx
        obtain ⟨x1, x2⟩ := g.mem_cls.1 hx
        refine ⟨x1, fun y hy => ?_⟩
        obtain ⟨y1, y2⟩ := g.mem_cls.1 hy
        unfold G.Q at x2 y2
        rw [Bool.and_eq_true] at x2 y2
        exact g.trans hj x2.2 y2.1)
      have hnpb : np ≤ 100 := by
        have h1 := cnt_le hpi.out (Nat.le_refl p.length)
        unfold cntTo at h1
        have := hfl.out
        have := hnp.out
        omega
      have HRD := Lib.hid hrd
      have HR0 := Lib.hid hr0
      clear hpcl hrd hr0
      go_wp2_with fail
      go_loopw [7, 9] (fun s j wx => ∃ (k c : Nat) (f : Nat → Nat), k ≤ np ∧ s = .int .i64 c ∧ j = .int .i64 k ∧ Hid (c = cntTo L i k) ∧ Hid (BW w2 wx m ab f) ∧ Hid (BH L i k f)) (fun _ j _ => np - (intOf j).toNat)
      case atStart => exact ⟨0, c, f, by omega, rfl, rfl, hc, hW, hF⟩
      case round =>
        obtain ⟨k, c, f, hk, rfl, rfl, hc, hW, hF⟩ := hrel
        rename World => wx
        have hr0 := (hW.out.on.cell (p := ⟨bq, oq + i, none⟩) hbq'.out).trans HR0.out
        by_cases hkn : k < np
        · have d2 : decide ((k : Int) < (np : Int)) = true := decide_eq_true (by omega)
          have hkI : (k : Int) < (np : Int) := by omega
          have hkl : k < p.length := by rw [hnp.out]; exact hkn
          obtain ⟨bp, op, rfl, hbp, hcp⟩ := rd_cells HRD.out (by omega)
          have cv := (hW.out.on.cell (p := ⟨bp, op + k, none⟩) hbp).trans (hcp k hkl)
          have hvg := (hpin.out _ (List.getElem_mem hkl)).1
          have hst := bh_step hnd.out hF.out hpi.out (List.getElem?_eq_getElem hkl)
          have hcb := cnt_le hpi.out (k := k) (by omega)
          clear hcp hbp
          generalize p[k] = v at *
          clear hkl
          rw [hm.out] at hvg
          have hvI : (v : Int) < (m : Int) := by omega
          have hv0 : (0 : Int) ≤ (v : Int) := by omega
          have e1 : decide ((v : Int) < 0) = false := decide_eq_false (by omega)
          have e2 : decide ((m : Int) ≤ (v : Int)) = false := decide_eq_false (by omega)
          have e2' : decide (m ≤ v) = false := decide_eq_false (by omega)
          have ca := (hW.out.bx.cell v).trans (iv_at _ hvg)
          rw [hst.1] at ca
          have caf := hW.out.bx.free v
          have hW2 := Lib.hid (hW.out.put v (i + 1))
          have hF2 := Lib.hid hst.2
          have hcm : c ≤ 60 := by have := hc.out; have := hfl.out; omega
          have hc2 : Hid (c + 1 = cntTo L i (k + 1)) := Lib.hid (by have := hc.out; unfold cntTo at *; omega)
          clear hW hF hc hst hcb
          go_wp2_with fail
          exact ⟨⟨k + 1, c + 1, _, by omega, by go_num, by go_num, hc2, hW2, hF2⟩, by simp [intOf]; omega⟩
        · obtain rfl : k = np := by omega
          have d2 : decide ((k : Int) < (k : Int)) = false := decide_eq_false (by omega)
          have hc2 : Hid (c = cntTo L (i + 1) 0) := Lib.hid (by rw [← cnt_next hpi.out, hnp.out]; exact hc.out)
          have hF2 : Hid (BH L (i + 1) 0 f) := Lib.hid (bh_next hpi.out (by rw [hnp.out]; exact hF.out))
          clear hc hF
          by_cases hk1 : 1 < k
          · have d3 : decide ((1 : Int) < (k : Int)) = true := decide_eq_true (by omega)
            have d3' : decide (1 < k) = true := decide_eq_true hk1
            have KX := KR.out wx (HB2.out.trans (hW.out.on.mono HB2.out.size)) P pc p (by rw [hnp.out]; omega) hpin.out (HRD.out.below hW.out.on)
            rw [hnp.out] at KX
            have KX := Lib.hid KX
            go_wp2_with fail
            refine KX.out.mono ?_
            rintro e w5 ⟨rfl, b5⟩
            have hW2 := Lib.hid (hW.out.below b5)
            clear hW b5 KX hr0
            go_wp2_with fail
            go_roundw
            case rel => exact ⟨i + 1, c, f, by omega, rfl, by go_num, hc2, hW2, hF2⟩
            case measure => simp [intOf]; omega
          · have d3 : decide ((1 : Int) < (k : Int)) = false := decide_eq_false (by omega)
            have d3' : decide (1 < k) = false := decide_eq_false hk1
            go_wp2_with fail
            go_roundw
            case rel => exact ⟨i + 1, c, f, by omega, rfl, by go_num, hc2, hW, hF2⟩
            case measure => simp [intOf]; omega
    · obtain rfl : i = K := by omega
      have d1 : decide ((i : Int) < (i : Int)) = false := decide_eq_false (by omega)
      have hcm : Hid (c = m) := Lib.hid (by rw [hc.out]; unfold cntTo; rw [← hLK.out, List.take_length, hfl.out]; rfl)
      have hF2 : Hid (BH g.parts g.parts.length 0 f) := Lib.hid (by rw [hL.out, hLK.out]; exact hF.out)
      clear hc hF HRR
      go_wp2_with fail
      go_loopw [10, 11, 12] (fun s _ _ wx => ∃ k : Nat, k ≤ z ∧ s = .int .i64 k ∧ Hid (BW w2 wx m ab f)) (fun s _ _ _ => z - (intOf s).toNat)
      case atStart => exact ⟨0, by omega, rfl, hW⟩
      case round =>
        obtain ⟨k, hk, rfl, hW⟩ := hrel
        rename World => wx
        by_cases hkz : k < z
        · have d2 : decide ((k : Int) < (z : Int)) = true := decide_eq_true (by omega)
          have hkI : (k : Int) < (z : Int) := by omega
          have hkl : k < l.length := by rw [hz.out]; exact hkz
          obtain ⟨b, off, rfl, hlt, hcell⟩ := H.out (by omega)
          obtain ⟨ca0, cb0⟩ := hcell k hkl
          have hon := HB2.out.trans (hW.out.on.mono HB2.out.size)
          have ca := (hon.cell (p := ⟨b, off + k * 2, none⟩) hlt).trans ca0
          have cb := (hon.cell (p := ⟨b, off + k * 2 + 1, none⟩) hlt).trans cb0
          have hin := Lib.hid (List.getElem_mem hkl)
          clear hcell ca0 cb0 hlt hon
          generalize l[k] = pk at *
          clear hkl
          obtain ⟨x, y⟩ := pk
          simp only at ca cb
          go_wp2_with fail
          go_quiet (fail)
          have hW2 := Lib.hid (hW.out.below (((Fr.refl [] wx).drewN nq).all))
          clear hW ca cb
          generalize wx.drewN nq = wy at *
          go_wp2_with fail
          have hW3 : Hid (∀ i, BW w2 (wy.drewN i) m ab f) := Lib.hid (fun i => hW2.out.below (((Fr.refl [] wy).drewN i).all))
          by_cases x0 : 0 ≤ x
          · by_cases x1 : x < (m : Int)
            · by_cases y0 : 0 ≤ y
              · by_cases y1 : y < (m : Int)
                · obtain ⟨a, rfl⟩ : ∃ a : Nat, x = a := ⟨x.toNat, by omega⟩
                  obtain ⟨b2, rfl⟩ : ∃ b : Nat, y = b := ⟨y.toNat, by omega⟩
                  have ham : a < m := by omega
                  have hbm : b2 < m := by omega
                  have hnl := Lib.hid (bh_edge hgok.out hF2.out (hmem.out a b2 hin.out ham hbm))
                  have cx := (hW2.out.bx.cell a).trans (iv_at _ ham)
                  have cy := (hW2.out.bx.cell b2).trans (iv_at _ hbm)
                  have d4 : decide (((f a : Nat) : Int) < ((f b2 : Nat) : Int)) = false := decide_eq_false (by have := hnl.out; omega)
                  have d4' : decide (f a < f b2) = false := decide_eq_false hnl.out
                  clear hW2 hnl hin
                  go_quiet (fail)
                  go_wp2_with fail
                  go_roundw
                  case rel => exact ⟨k + 1, by omega, by go_num, Lib.hid (hW3.out _)⟩
                  case measure => simp [intOf]; omega
                · clear hW2 hin
                  go_quiet (fail)
                  go_wp2_with fail
                  go_roundw
                  case rel => exact ⟨k + 1, by omega, by go_num, Lib.hid (hW3.out _)⟩
                  case measure => simp [intOf]; omega
              · clear hW2 hin
                go_quiet (fail)
                go_wp2_with fail
                go_roundw
                case rel => exact ⟨k + 1, by omega, by go_num, Lib.hid (hW3.out _)⟩
                case measure => simp [intOf]; omega
            · clear hW2 hin
              go_quiet (fail)
              go_wp2_with fail
              go_roundw
              case rel => exact ⟨k + 1, by omega, by go_num, Lib.hid (hW3.out _)⟩
              case measure => simp [intOf]; omega
          · clear hW2 hin
            go_quiet (fail)
            go_wp2_with fail
            go_roundw
            case rel => exact ⟨k + 1, by omega, by go_num, Lib.hid (hW3.out _)⟩
            case measure => simp [intOf]; omega
        · obtain rfl : k = z := by omega
          have d2 : decide ((k : Int) < (k : Int)) = false := decide_eq_false (by omega)
          obtain rfl : c = m := hcm.out
          have d3 : ((c : Int) == (c : Int)) = true := by simp
          have fin : Hid (SaPost true w (.returned (.bool true)) wx) := Lib.hid ⟨rfl, HB2.out.trans (hW.out.on.mono HB2.out.size)⟩
          clear hW
          go_wp2_with fail
          go_ret
          exact fin.out
end Go.Proofs.Ytpdidgacmikllaa.tj
