/-
  tarjan: parts put in order, in memory: what is counted.
-/
import Derived.Test.YtpdidgacmikllaaTj2
import Derived.Test.YtpdidgacmikllaaTjK
import Derived.Test.YtpdidgacmikllaaTjW
namespace Go.Proofs.Ytpdidgacmikllaa.tj
open Go.RowKit Go.Proofs.Ytpdidgacmikllaa.mem

theorem RG.om {W : World} {n0 b : Nat} {g : G} {rows : Nat → Row} (h : RG W n0 b g.n rows []) (hx : ∀ i, i < g.n → (rows i).xs = g.out i) : OM W W.heap.size b g :=
  ⟨h.bx.lt, fun v hv => by
    refine ⟨(rows v).A, (rows v).cap, ?_, ?_, fun _ => (h.sg v hv).lt⟩
    · rw [(h.bx.cell v).trans (rv_at _ hv)]
      unfold hdr
      rw [hx v hv]
    · have := (h.sg v hv).rd
      rwa [hx v hv] at this⟩

/-- what lies below as it was given: the graph, its parts, each member's -/
structure GM (W : World) (n0 : Nat) (g : G) (T : TS) (o : Nat) (Aq : Option Addr) (cq tp : Nat) (rows : List Row) : Prop where
  om : OM W n0 o g
  pd : Parted2 g T
  xs : rows.map (·.xs) = T.parts
  sq : Rd W Aq (rows.map hdr)
  qb : ∀ x ∈ blk Aq, x < n0
  rd : ∀ r ∈ rows, Rd W r.A (natI r.xs)
  rb : ∀ r ∈ rows, 0 < r.xs.length → ∀ x ∈ blk r.A, x < n0
  bp : Box W tp 3 (iv T.part g.n)
  pb : tp < n0

theorem GM.on {W W' : World} {n0 : Nat} {g : G} {T : TS} {o : Nat} {Aq : Option Addr} {cq tp : Nat} {rows : List Row} (h : GM W n0 g T o Aq cq tp rows) (hb : Below n0 W W') : GM W' n0 g T o Aq cq tp rows := by
  refine ⟨h.om.below hb, h.pd, h.xs, fun hz => ?_, h.qb, fun r hr hz => ?_, h.rb, ?_, h.pb⟩
  · obtain ⟨b, off, e, hl, hc⟩ := h.sq hz
    have hx := h.qb b (by rw [e]; simp [blk])
    exact ⟨b, off, e, Nat.lt_of_lt_of_le hl hb.size, fun j hj => (hb.cell (p := ⟨b, off + j, none⟩) hx).trans (hc j hj)⟩
  · obtain ⟨b, off, e, hl, hc⟩ := h.rd r hr hz
    have hx := h.rb r hr (by simpa [natI] using hz) b (by rw [e]; simp [blk])
    exact ⟨b, off, e, Nat.lt_of_lt_of_le hl hb.size, fun j hj => (hb.cell (p := ⟨b, off + j, none⟩) hx).trans (hc j hj)⟩
  · exact (hb.block tp h.pb).trans h.bp

theorem PM.gm {W : World} {n0 : Nat} {g : G} {T : TS} {o : Nat} {Aq : Option Addr} {cq tp : Nat} {rows : List Row} (h : PM W n0 g T Aq cq tp rows) (ho : OM W W.heap.size o g) : GM W W.heap.size g T o Aq cq tp rows :=
  ⟨ho, h.pd, h.xs, h.sq.rd, h.sq.lt, h.rd, fun r hr hz x hx => by
    obtain ⟨b, off, e, hl, _⟩ := h.rd r hr (by simpa [natI] using hz)
    rw [e, blk_some, List.mem_singleton] at hx
    omega, h.bp, h.bp.lt⟩

/-- counted so far -/
structure P1 (w W : World) (K la ba : Nat) (rows : Nat → Row) (X : List (Nat × Nat)) : Prop where
  bl : Box W la 3 (iv (fun q => (leadN X q : Nat)) K)
  rg : RG W w.heap.size ba K rows [la]
  xs : ∀ q, q < K → (rows q).xs = backL X q
  gl : w.heap.size ≤ la
  on : Below w.heap.size w W

theorem P1.below {w W W' : World} {K la ba : Nat} {rows : Nat → Row} {X : List (Nat × Nat)} (h : P1 w W K la ba rows X) (hb : Below W.heap.size W W') : P1 w W' K la ba rows X :=
  ⟨h.bl.kept (Fr.of_below hb []) (by simp), h.rg.on hb, h.xs, h.gl, h.on.trans (hb.mono h.on.size)⟩

/-- an edge from one part to another one: the first half -/
structure P1h (w W : World) (K la ba : Nat) (rows : Nat → Row) (X : List (Nat × Nat)) (a : Nat) : Prop where
  bl : Box W la 3 (iv (fun q => (upd (leadN X) a (leadN X a + 1) q : Nat)) K)
  rg : RG W w.heap.size ba K rows [la]
  xs : ∀ q, q < K → (rows q).xs = backL X q
  gl : w.heap.size ≤ la
  on : Below w.heap.size w W

theorem P1.lead {w W : World} {K la ba : Nat} {rows : Nat → Row} {X : List (Nat × Nat)} (h : P1 w W K la ba rows X) (a : Nat) : P1h w (W.setCell ⟨la, a, none⟩ (.int .i64 ((leadN X a + 1 : Nat) : Int))) K la ba rows X a := by
  have hf : Fr [la] W (W.setCell ⟨la, a, none⟩ (.int .i64 ((leadN X a + 1 : Nat) : Int))) := (Fr.refl _ _).setCell (Or.inl (by simp)) _
  refine ⟨?_, h.rg.kept hf, h.xs, h.gl, h.on.trans (hf.below (fun g hg => by rw [List.mem_singleton] at hg; subst hg; exact h.gl) h.on.size)⟩
  have := h.bl.put a (.int .i64 ((leadN X a + 1 : Nat) : Int))
  rwa [iv_set, iv_upd_nat] at this

theorem P1h.back {w W W1 : World} {K la ba : Nat} {rows : Nat → Row} {X : List (Nat × Nat)} {a b : Nat} (h : P1h w W K la ba rows X a) (hb : b < K) {A' : Option Addr} {c' m : Nat} (hm : m = (rows b).xs.length + 1) (hs : Seg W1 3 A' c' (natI (rows b).xs ++ [.int .i64 (a : Nat)])) (hf : Fr (blk (rows b).A) W W1) (hg : ∀ g ∈ blk A', g ∈ blk (rows b).A ∨ W.heap.size ≤ g) :
    P1 w (W1.setCell ⟨ba, b, none⟩ (.slice A' m c')) K la ba (upd rows b ⟨A', c', (rows b).xs ++ [a]⟩) (X ++ [(a, b)]) := by
  rw [natI_snoc] at hs
  obtain ⟨p1, p2⟩ := h.rg.push h.on.size hb hm hs hf hg
  refine ⟨?_, p1, fun q hq => ?_, h.gl, h.on.trans (p2.below (fun g hg => ?_) h.on.size)⟩
  · have h1 : Box (W1.setCell ⟨ba, b, none⟩ (.slice A' m c')) la _ _ := h.bl.kept p2 (fun hm => by
      rcases List.mem_cons.1 hm with e | e
      · exact h.rg.xb (by rw [e]; simp)
      · exact h.rg.nx b hb la e (by simp))
    have e : (fun q => ((upd (leadN X) a (leadN X a + 1) q : Nat) : Int)) = fun q => ((leadN (X ++ [(a, b)]) q : Nat) : Int) := by
      funext q
      rw [leadN_snoc]
      by_cases e : q = a
      · subst e; rw [upd_same, if_pos rfl]
      · rw [upd_ne _ _ e, if_neg e, Nat.add_zero]
    rwa [e] at h1
  · rw [backL_snoc]
    by_cases e : q = b
    · subst e; rw [upd_same, if_pos rfl, h.xs q hq]
    · rw [upd_ne _ _ e, if_neg e, List.append_nil]; exact h.xs q hq
  · rcases List.mem_cons.1 hg with rfl | hg
    · exact h.rg.gb
    · exact h.rg.ge b hb g hg

theorem Parted2.parts_le {g : G} {T : TS} (h : Parted2 g T) : T.parts.length ≤ g.n := by
  have hnd : ((List.range T.parts.length).map T.lst).Nodup := by
    unfold List.Nodup
    rw [List.pairwise_map]
    refine List.Pairwise.imp_of_mem (fun {a b} ha hb hab e => hab ?_) (List.nodup_range (n := T.parts.length))
    have h1 := (h.lst (q := a) (by simpa using ha)).2.1
    have h2 := (h.lst (q := b) (by simpa using hb)).2.1
    rw [← h1, e, h2]
  have := nodup_len (m := List.range g.n) hnd (fun x hx => by
    obtain ⟨q, hq, rfl⟩ := List.mem_map.1 hx
    simpa using (h.lst (q := q) (by simpa using hq)).1)
  simpa using this

theorem leadN_le (X : List (Nat × Nat)) (q : Nat) : leadN X q ≤ X.length := List.length_filter_le _ _
theorem backL_le (X : List (Nat × Nat)) (q : Nat) : (backL X q).length ≤ X.length := by unfold backL; rw [List.length_map]; exact List.length_filter_le _ _
theorem TS.cross_le (T : TS) (L : List (Nat × Nat)) : (T.cross L).length ≤ L.length := by unfold TS.cross; rw [List.length_map]; exact List.length_filter_le _ _

/-- edges gone through: all of the members below m, and the first k of m's -/
def G.gone (g : G) (m k : Nat) : List (Nat × Nat) := g.all m ++ ((g.out m).take k).map fun t => (m, t)
theorem G.gone_zero (g : G) (m : Nat) : g.gone m 0 = g.all m := by simp [G.gone]
theorem G.gone_all (g : G) (m : Nat) : g.gone m (g.out m).length = g.all (m + 1) := by rw [g.all_succ]; simp [G.gone]
theorem G.gone_succ (g : G) {m k : Nat} (hk : k < (g.out m).length) : g.gone m (k + 1) = g.gone m k ++ [(m, (g.out m)[k])] := by
  unfold G.gone
  rw [List.take_succ_eq_append_getElem hk, List.map_append, List.append_assoc]
  rfl

theorem G.all_len (g : G) (hg : g.ok) : ∀ m, (g.all m).length = (g.E.filter fun x => decide (x.1 < m)).length
  | 0 => by rw [show (g.E.filter fun x => decide (x.1 < 0)) = [] from List.filter_eq_nil_iff.2 (by simp)]; rfl
  | m + 1 => by
    rw [g.all_succ, List.length_append, g.all_len hg m, List.length_map]
    unfold G.out
    rw [List.length_map]
    have : ∀ E : List (Nat × Nat), (E.filter fun x => decide (x.1 < m + 1)).length = (E.filter fun x => decide (x.1 < m)).length + (E.filter fun x => x.1 == m).length := by
      intro E
      induction E with
      | nil => rfl
      | cons x r ih =>
        simp only [List.filter_cons]
        by_cases h1 : x.1 < m
        · have h2 : (x.1 == m) = false := by rw [beq_eq_false_iff_ne]; omega
          simp only [h1, h2, show x.1 < m + 1 by omega, decide_true, if_true, List.length_cons, Bool.false_eq_true, if_false]
          omega
        · by_cases h2 : x.1 = m
          · simp [h2] at ih ⊢
            omega
          · have h3 : (x.1 == m) = false := by rw [beq_eq_false_iff_ne]; exact h2
            have h4 : ¬ x.1 < m + 1 := by omega
            simp only [h1, h3, h4, decide_false, Bool.false_eq_true, if_false]
            exact ih
    exact (this g.E).symm
theorem G.all_le (g : G) (hg : g.ok) (m : Nat) : (g.all m).length ≤ g.E.length := by rw [g.all_len hg]; exact List.length_filter_le _ _
theorem G.out_le (g : G) (v : Nat) : (g.out v).length ≤ g.E.length := by unfold G.out; rw [List.length_map]; exact List.length_filter_le _ _
theorem G.gone_le (g : G) (hg : g.ok) (m k : Nat) : (g.gone m k).length ≤ 2 * g.E.length := by
  unfold G.gone
  have h1 := g.all_le hg m
  have h2 := g.out_le m
  simp
  omega
end Go.Proofs.Ytpdidgacmikllaa.tj
