import Derived.Test.YtohdcmmkbblhkaaGreatDoorV27
import Derived.Test.YtohdcmmkbblhkaaGreatDoorUTjK
import Derived.Test.YtohdcmmkbblhkaaGreatDoorUTjW
import Derived.Test.YtohdcmmkbblhkaaGreatDoorV34
import Derived.Deep.LoopGhost
/-
  tarjan: parts put in order, in memory: what is counted.
-/
set_option linter.all false
namespace Go.Proofs.YtohdcmmkbblhkaaGreatDoor.tj
open Go.RowKit Go.Proofs.YtohdcmmkbblhkaaGreatDoor.mem

theorem RG.om {W : World} {n0 b : Nat} {g : G} {rows : Nat → Row} (h : RG W n0 b g.n rows []) (hx : ∀ i, i < g.n → (rows i).xs = g.out i) : OM W W.heap.size b g :=
  ⟨h.bx.lt, fun v hv => by
    refine ⟨(rows v).A, (rows v).cap, ?_, ?_, fun _ => (h.sg v hv).lt⟩
    · rw [(h.bx.cell v).trans (rv_at _ hv)]
      unfold hdr
      rw [hx v hv]
    · have := (h.sg v hv).rd
      rwa [hx v hv] at this⟩

/-- what lies below as it was given: the graph, its parts, each member's -/
structure GM (W : World) (n0 : Nat) (g : G) (T : TS) (o : Nat) (Aq : Option Addr) (cq tp : Nat) (rows : List Row) : Prop where
  om : OM W n0 o g
  pd : Parted2 g T
  xs : rows.map (·.xs) = T.parts
  sq : Rd W Aq (rows.map hdr)
  qb : ∀ x ∈ blk Aq, x < n0
  rd : ∀ r ∈ rows, Rd W r.A (natI r.xs)
  rb : ∀ r ∈ rows, 0 < r.xs.length → ∀ x ∈ blk r.A, x < n0
  bp : Box W tp 3 (iv T.part g.n)
  pb : tp < n0

theorem GM.on {W W' : World} {n0 : Nat} {g : G} {T : TS} {o : Nat} {Aq : Option Addr} {cq tp : Nat} {rows : List Row} (h : GM W n0 g T o Aq cq tp rows) (hb : Below n0 W W') : GM W' n0 g T o Aq cq tp rows := by
  refine ⟨h.om.below hb, h.pd, h.xs, fun hz => ?_, h.qb, fun r hr hz => ?_, h.rb, ?_, h.pb⟩
  · obtain ⟨b, off, e, hl, hc⟩ := h.sq hz
    have hx := h.qb b (by rw [e]; simp [blk])
    exact ⟨b, off, e, Nat.lt_of_lt_of_le hl hb.size, fun j hj => (hb.cell (p := ⟨b, off + j, none⟩) hx).trans (hc j hj)⟩
  · obtain ⟨b, off, e, hl, hc⟩ := h.rd r hr hz
    have hx := h.rb r hr (by simpa [natI] using hz) b (by rw [e]; simp [blk])
    exact ⟨b, off, e, Nat.lt_of_lt_of_le hl hb.size, fun j hj => (hb.cell (p := ⟨b, off + j, none⟩) hx).trans (hc j hj)⟩
  · exact (hb.block tp h.pb).trans h.bp

theorem PM.gm {W : World} {n0 : Nat} {g : G} {T : TS} {o : Nat} {Aq : Option Addr} {cq tp : Nat} {rows : List Row} (h : PM W n0 g T Aq cq tp rows) (ho : OM W W.heap.size o g) : GM W W.heap.size g T o Aq cq tp rows :=
  ⟨ho, h.pd, h.xs, h.sq.rd, h.sq.lt, h.rd, fun r hr hz x hx => by
    obtain ⟨b, off, e, hl, _⟩ := h.rd r hr (by simpa [natI] using hz)
    rw [e, blk_some, List.mem_singleton] at hx
    omega, h.bp, h.bp.lt⟩

/-- counted so far -/
structure P1 (w W : World) (K la ba : Nat) (rows : Nat → Row) (X : List (Nat × Nat)) : Prop where
  bl : Box W la 3 (iv (fun q => (leadN X q : Nat)) K)
  rg : RG W w.heap.size ba K rows [la]
  xs : ∀ q, q < K → (rows q).xs = backL X q
  gl : w.heap.size ≤ la
  on : Below w.heap.size w W

theorem P1.below {w W W' : World} {K la ba : Nat} {rows : Nat → Row} {X : List (Nat × Nat)} (h : P1 w W K la ba rows X) (hb : Below W.heap.size W W') : P1 w W' K la ba rows X :=
  ⟨h.bl.kept (Fr.of_below hb []) (by simp), h.rg.on hb, h.xs, h.gl, h.on.trans (hb.mono h.on.size)⟩

/-- an edge from one part to another one: the first half -/
structure P1h (w W : World) (K la ba : Nat) (rows : Nat → Row) (X : List (Nat × Nat)) (a : Nat) : Prop where
  bl : Box W la 3 (iv (fun q => (upd (leadN X) a (leadN X a + 1) q : Nat)) K)
  rg : RG W w.heap.size ba K rows [la]
  xs : ∀ q, q < K → (rows q).xs = backL X q
  gl : w.heap.size ≤ la
  on : Below w.heap.size w W

theorem P1.lead {w W : World} {K la ba : Nat} {rows : Nat → Row} {X : List (Nat × Nat)} (h : P1 w W K la ba rows X) (a : Nat) : P1h w (W.setCell ⟨la, a, none⟩ (.int .i64 ((leadN X a + 1 : Nat) : Int))) K la ba rows X a := by
  have hf : Fr [la] W (W.setCell ⟨la, a, none⟩ (.int .i64 ((leadN X a + 1 : Nat) : Int))) := (Fr.refl _ _).setCell (Or.inl (by simp)) _
  refine ⟨?_, h.rg.kept hf, h.xs, h.gl, h.on.trans (hf.below (fun g hg => by rw [List.mem_singleton] at hg; subst hg; exact h.gl) h.on.size)⟩
  have := h.bl.put a (.int .i64 ((leadN X a + 1 : Nat) : Int))
  rwa [iv_set, iv_upd_nat] at this

theorem P1h.back {w W W1 : World} {K la ba : Nat} {rows : Nat → Row} {X : List (Nat × Nat)} {a b : Nat} (h : P1h w W K la ba rows X a) (hb : b < K) {A' : Option Addr} {c' m : Nat} (hm : m = (rows b).xs.length + 1) (hs : Seg W1 3 A' c' (natI (rows b).xs ++ [.int .i64 (a : Nat)])) (hf : Fr (blk (rows b).A) W W1) (hg : ∀ g ∈ blk A', g ∈ blk (rows b).A ∨ W.heap.size ≤ g) :
    P1 w (W1.setCell ⟨ba, b, none⟩ (.slice A' m c')) K la ba (upd rows b ⟨A', c', (rows b).xs ++ [a]⟩) (X ++ [(a, b)]) := by
  rw [natI_snoc] at hs
  obtain ⟨p1, p2⟩ := h.rg.push h.on.size hb hm hs hf hg
  refine ⟨?_, p1, fun q hq => ?_, h.gl, h.on.trans (p2.below (fun g hg => ?_) h.on.size)⟩
  · have h1 : Box (W1.setCell ⟨ba, b, none⟩ (.slice A' m c')) la _ _ := h.bl.kept p2 (fun hm => by
      rcases List.mem_cons.1 hm with e | e
      · exact h.rg.xb (by rw [e]; simp)
      · exact h.rg.nx b hb la e (by simp))
    have e : (fun q => ((upd (leadN X) a (leadN X a + 1) q : Nat) : Int)) = fun q => ((leadN (X ++ [(a, b)]) q : Nat) : Int) := by
      funext q
      rw [leadN_snoc]
      by_cases e : q = a
      · subst e; rw [upd_same, if_pos rfl]
      · rw [upd_ne _ _ e, if_neg e, Nat.add_zero]
    rwa [e] at h1
  · rw [backL_snoc]
    by_cases e : q = b
    · subst e; rw [upd_same, if_pos rfl, h.xs q hq]
    · rw [upd_ne _ _ e, if_neg e, List.append_nil]; exact h.xs q hq
  · rcases List.mem_cons.1 hg with rfl | hg
    · exact h.rg.gb
    · exact h.rg.ge b hb g hg

theorem Parted2.parts_le {g : G} {T : TS} (h : Parted2 g T) : T.parts.length ≤ g.n := by
  have hnd : ((List.range T.parts.length).map T.lst).Nodup := by
    unfold List.Nodup
    rw [List.pairwise_map]
    refine List.Pairwise.imp_of_mem (fun {a b} ha hb hab e => hab ?_) (List.nodup_range (n := T.parts.length))
    have h1 := (h.lst (q := a) (by simpa using ha)).2.1
    have h2 := (h.lst (q := b) (by simpa using hb)).2.1
    rw [← h1, e, h2]
  have := nodup_len (m := List.range g.n) hnd (fun x hx => by
    obtain ⟨q, hq, rfl⟩ := List.mem_map.1 hx
    simpa using (h.lst (q := q) (by simpa using hq)).1)
  simpa using this

theorem leadN_le (X : List (Nat × Nat)) (q : Nat) : leadN X q ≤ X.length := List.length_filter_le _ _
theorem backL_le (X : List (Nat × Nat)) (q : Nat) : (backL X q).length ≤ X.length := by unfold backL; rw [List.length_map]; exact List.length_filter_le _ _
theorem TS.cross_le (T : TS) (L : List (Nat × Nat)) : (T.cross L).length ≤ L.length := by unfold TS.cross; rw [List.length_map]; exact List.length_filter_le _ _

/-- edges gone through: all of the members below m, and the first k of m's -/
def G.gone (g : G) (m k : Nat) : List (Nat × Nat) := g.all m ++ ((g.out m).take k).map fun t => (m, t)
theorem G.gone_zero (g : G) (m : Nat) : g.gone m 0 = g.all m := by simp [G.gone]
theorem G.gone_all (g : G) (m : Nat) : g.gone m (g.out m).length = g.all (m + 1) := by rw [g.all_succ]; simp [G.gone]
theorem G.gone_succ (g : G) {m k : Nat} (hk : k < (g.out m).length) : g.gone m (k + 1) = g.gone m k ++ [(m, (g.out m)[k])] := by
  unfold G.gone
  rw [List.take_succ_eq_append_getElem hk, List.map_append, List.append_assoc]
  rfl

theorem G.all_len (g : G) (hg : g.ok) : ∀ m, (g.all m).length = (g.E.filter fun x => decide (x.1 < m)).length
  | 0 => by rw [show (g.E.filter fun x => decide (x.1 < 0)) = [] from List.filter_eq_nil_iff.2 (by simp)]; rfl
  | m + 1 => by
    rw [g.all_succ, List.length_append, g.all_len hg m, List.length_map]
    unfold G.out
    rw [List.length_map]
    have : ∀ E : List (Nat × Nat), (E.filter fun x => decide (x.1 < m + 1)).length = (E.filter fun x => decide (x.1 < m)).length + (E.filter fun x => x.1 == m).length := by
      intro E
      induction E with
      | nil => rfl
      | cons x r ih =>
        simp only [List.filter_cons]
        by_cases h1 : x.1 < m
        · have h2 : (x.1 == m) = false := by rw [beq_eq_false_iff_ne]; omega
          simp only [h1, h2, show x.1 < m + 1 by omega, decide_true, if_true, List.length_cons, Bool.false_eq_true, if_false]
          omega
        · by_cases h2 : x.1 = m
          · simp [h2] at ih ⊢
            omega
          · have h3 : (x.1 == m) = false := by rw [beq_eq_false_iff_ne]; exact h2
            have h4 : ¬ x.1 < m + 1 := by omega
            simp only [h1, h3, h4, decide_false, Bool.false_eq_true, if_false]
            exact ih
    exact (this g.E).symm
theorem G.all_le (g : G) (hg : g.ok) (m : Nat) : (g.all m).length ≤ g.E.length := by rw [g.all_len hg]; exact List.length_filter_le _ _
theorem G.out_le (g : G) (v : Nat) : (g.out v).length ≤ g.E.length := by unfold G.out; rw [List.length_map]; exact List.length_filter_le _ _
theorem G.gone_le (g : G) (hg : g.ok) (m k : Nat) : (g.gone m k).length ≤ 2 * g.E.length := by
  unfold G.gone
  have h1 := g.all_le hg m
  have h2 := g.out_le m
  simp
  omega
end Go.Proofs.YtohdcmmkbblhkaaGreatDoor.tj

/-
  tarjan: parts put in order, in memory: what is taken, one by one.
-/
set_option linter.all false
namespace Go.Proofs.YtohdcmmkbblhkaaGreatDoor.tj
open Go.RowKit Go.Proofs.YtohdcmmkbblhkaaGreatDoor.mem

structure T3 (w W : World) (K la ba h : Nat) (A Al : Option Addr) (rws : Nat → Row) (tag : Nat → Nat) : Prop where
  t0 : tag la = 0
  t1 : tag ba = 1
  t2 : tag h = 2
  t2' : ∀ g ∈ blk A, tag g = 2
  t3 : ∀ g ∈ blk Al, tag g = 3
  t4 : ∀ q, q < K → 0 < (rws q).xs.length → ∀ g ∈ blk (rws q).A, tag g = 4
  ge : ∀ g, g < W.heap.size → tag g < 5 → w.heap.size ≤ g

structure P3 (w W : World) (K la ba h : Nat) (A : Option Addr) (c : Nat) (xs : List Nat) (Al : Option Addr) (cl : Nat) (lrows : List Row) (lead : Nat → Nat) (rws : Nat → Row) : Prop where
  bl : Box W la 3 (iv (fun q => (lead q : Nat)) K)
  bb : Box W ba 71 (rv rws K)
  br : ∀ q, q < K → Rd W (rws q).A (natI (rws q).xs)
  lh : LH W h A c xs
  sl : Seg W 71 Al cl (lrows.map hdr)
  tg : ∃ tag, T3 w W K la ba h A Al rws tag
  on : Below w.heap.size w W

section
variable {w W W' : World} {K la ba h : Nat} {A : Option Addr} {c : Nat} {xs : List Nat} {Al : Option Addr} {cl : Nat} {lrows : List Row} {lead : Nat → Nat} {rws : Nat → Row}

theorem T3.grow {tag : Nat → Nat} (t : T3 w W K la ba h A Al rws tag) (hs : W.heap.size ≤ W'.heap.size) (hn : w.heap.size ≤ W.heap.size) : T3 w W' K la ba h A Al rws tag :=
  ⟨t.t0, t.t1, t.t2, t.t2', t.t3, t.t4, fun g hg hlt => by
    rcases Nat.lt_or_ge g W.heap.size with h1 | h1
    · exact t.ge g h1 hlt
    · omega⟩

theorem rd_lt {W : World} {A : Option Addr} {xs : List Value} (h : Rd W A xs) (hz : 0 < xs.length) : ∀ g ∈ blk A, g < W.heap.size := fun g hg => by
  obtain ⟨b, off, e, hl, _⟩ := h hz
  rw [e, blk_some, List.mem_singleton] at hg
  omega

/-- the tags, where what is new from here on is of a kind -/
theorem P3.newer (p : P3 w W K la ba h A c xs Al cl lrows lead rws) {tag : Nat → Nat} (t : T3 w W K la ba h A Al rws tag) (k : Nat) : T3 w W K la ba h A Al rws (tag2 tag W.heap.size k) := by
  refine ⟨by rw [tag2_old p.bl.lt]; exact t.t0, by rw [tag2_old p.bb.lt]; exact t.t1, by rw [tag2_old p.lh.bx.lt]; exact t.t2, fun g hg => by rw [tag2_old (p.lh.sq.lt g hg)]; exact t.t2' g hg, fun g hg => by rw [tag2_old (p.sl.lt g hg)]; exact t.t3 g hg, fun q hq hz g hg => by rw [tag2_old (rd_lt (p.br q hq) (by rw [natI_len]; exact hz) g hg)]; exact t.t4 q hq hz g hg, fun g hg hlt => ?_⟩
  rw [tag2_old hg] at hlt
  exact t.ge g hg hlt

theorem P3.k0 (p : P3 w W K la ba h A c xs Al cl lrows lead rws) {tag : Nat → Nat} (t : T3 w W K la ba h A Al rws tag) {k : Nat} (hk : k ≠ 0) (hf : FrP (fun g => tag g = k) W W') : Box W' la 3 (iv (fun q => (lead q : Nat)) K) := hf.box p.bl (fun e => hk (e.symm.trans t.t0))
theorem P3.k1 (p : P3 w W K la ba h A c xs Al cl lrows lead rws) {tag : Nat → Nat} (t : T3 w W K la ba h A Al rws tag) {k : Nat} (hk : k ≠ 1) (hf : FrP (fun g => tag g = k) W W') : Box W' ba 71 (rv rws K) := hf.box p.bb (fun e => hk (e.symm.trans t.t1))
theorem P3.k2 (p : P3 w W K la ba h A c xs Al cl lrows lead rws) {tag : Nat → Nat} (t : T3 w W K la ba h A Al rws tag) {k : Nat} (hk : k ≠ 2) (hf : FrP (fun g => tag g = k) W W') : LH W' h A c xs := ⟨hf.box p.lh.bx (fun e => hk (e.symm.trans t.t2)), hf.seg p.lh.sq (fun g hg e => hk (e.symm.trans (t.t2' g hg)))⟩
theorem P3.k3 (p : P3 w W K la ba h A c xs Al cl lrows lead rws) {tag : Nat → Nat} (t : T3 w W K la ba h A Al rws tag) {k : Nat} (hk : k ≠ 3) (hf : FrP (fun g => tag g = k) W W') : Seg W' 71 Al cl (lrows.map hdr) := hf.seg p.sl (fun g hg e => hk (e.symm.trans (t.t3 g hg)))
theorem P3.k4 (p : P3 w W K la ba h A c xs Al cl lrows lead rws) {tag : Nat → Nat} (t : T3 w W K la ba h A Al rws tag) {k : Nat} (hk : k ≠ 4) (hf : FrP (fun g => tag g = k) W W') : ∀ q, q < K → Rd W' (rws q).A (natI (rws q).xs) := fun q hq hz => hf.rd (p.br q hq) (fun g hg e => hk (e.symm.trans (t.t4 q hq (by rwa [natI_len] at hz) g hg))) hz
theorem P3.fr (p : P3 w W K la ba h A c xs Al cl lrows lead rws) {tag : Nat → Nat} (t : T3 w W K la ba h A Al rws tag) {k : Nat} (hk : k < 5) (hf : FrP (fun g => tag g = k) W W') : Below w.heap.size w W' := p.on.trans (hf.below p.on.size (fun g hg e => t.ge g hg (by omega)))

theorem P3.below (p : P3 w W K la ba h A c xs Al cl lrows lead rws) (hb : Below W.heap.size W W') : P3 w W' K la ba h A c xs Al cl lrows lead rws := by
  obtain ⟨tag, t⟩ := p.tg
  have hf : FrP (fun g => tag g = 9) W W' := FrP.of_below hb
  exact ⟨p.k0 t (by omega) hf, p.k1 t (by omega) hf, p.k4 t (by omega) hf, p.k2 t (by omega) hf, p.k3 t (by omega) hf, ⟨tag, t.grow hb.size p.on.size⟩, p.on.trans (hb.mono p.on.size)⟩

/-- the heap is changed -/
theorem P3.heap (p : P3 w W K la ba h A c xs Al cl lrows lead rws) {ys : List Nat} (hh : HP W W' h A ys) : ∃ A' c', P3 w W' K la ba h A' c' ys Al cl lrows lead rws := by
  obtain ⟨A', c', l, f, b⟩ := hh
  obtain ⟨tag0, t0⟩ := p.tg
  have t := p.newer t0 2
  generalize htag : tag2 tag0 W.heap.size 2 = tag at t
  have hf : FrP (fun g => tag g = 2) W W' := FrP.of_fr f (fun g hg => by
    rcases List.mem_cons.1 hg with rfl | hg
    · exact t.t2
    · exact t.t2' g hg)
  have tg := t.grow f.size p.on.size
  refine ⟨A', c', p.k0 t (by omega) hf, p.k1 t (by omega) hf, p.k4 t (by omega) hf, l, p.k3 t (by omega) hf, ⟨tag, tg.t0, tg.t1, tg.t2, fun g hg => ?_, tg.t3, tg.t4, tg.ge⟩, p.fr t (by omega) hf⟩
  rcases b g hg with e | e
  · exact t.t2' g e
  · rw [← htag]; exact tag2_new e

/-- a count is changed -/
theorem P3.setLead (p : P3 w W K la ba h A c xs Al cl lrows lead rws) (b x : Nat) : P3 w (W.setCell ⟨la, b, none⟩ (.int .i64 (x : Nat))) K la ba h A c xs Al cl lrows (upd lead b x) rws := by
  obtain ⟨tag, t⟩ := p.tg
  have hf := set_frp (W := W) (i := b) t.t0 (.int .i64 (x : Nat))
  refine ⟨?_, p.k1 t (by omega) hf, p.k4 t (by omega) hf, p.k2 t (by omega) hf, p.k3 t (by omega) hf, ⟨tag, t.grow hf.size p.on.size⟩, p.fr t (by omega) hf⟩
  have := p.bl.put b (.int .i64 (x : Nat))
  rwa [iv_set, iv_upd_nat] at this

/-- a part more stands -/
theorem P3.put (p : P3 w W K la ba h A c xs Al cl lrows lead rws) {A' : Option Addr} {c' : Nat} {r : Row} (hs : Seg W' 71 A' c' (lrows.map hdr ++ [hdr r])) (f : Fr (blk Al) W W') (b : ∀ g ∈ blk A', g ∈ blk Al ∨ W.heap.size ≤ g) : P3 w W' K la ba h A c xs A' c' (lrows ++ [r]) lead rws := by
  obtain ⟨tag0, t0⟩ := p.tg
  have t := p.newer t0 3
  generalize htag : tag2 tag0 W.heap.size 3 = tag at t
  have hf : FrP (fun g => tag g = 3) W W' := FrP.of_fr f (fun g hg => t.t3 g hg)
  have tg := t.grow f.size p.on.size
  refine ⟨p.k0 t (by omega) hf, p.k1 t (by omega) hf, p.k4 t (by omega) hf, p.k2 t (by omega) hf, by rw [List.map_append]; exact hs, ⟨tag, tg.t0, tg.t1, tg.t2, tg.t2', fun g hg => ?_, tg.t4, tg.ge⟩, p.fr t (by omega) hf⟩
  rcases b g hg with e | e
  · exact t.t3 g e
  · rw [← htag]; exact tag2_new e
end

/-- the heap is made -/
theorem P1.p3 {w W : World} {K la ba : Nat} {rws : Nat → Row} {X : List (Nat × Nat)} (p : P1 w W K la ba rws X) : P3 w (W.alloc (.cells #[.slice none 0 0] 127)) K la ba W.heap.size none 0 [] none 0 [] (leadN X) rws := by
  classical
  have hb : Below W.heap.size W (W.alloc (.cells #[.slice none 0 0] 127)) := (Below.refl _ _).alloc (Nat.le_refl _) _
  have q := p.below hb
  have hll := p.bl.lt
  have hbl := p.rg.bx.lt
  have hab : ba ≠ la := fun e => p.rg.xb (by rw [e]; simp)
  refine ⟨q.bl, q.rg.bx, fun i hi => (q.rg.sg i hi).rd, ⟨Box.new _ _ _, Seg.nil _ _⟩, Seg.nil _ _, ⟨fun g => if g = la then 0 else if g = ba then 1 else if g = W.heap.size then 2 else if ∃ i, i < K ∧ g ∈ blk (rws i).A then 4 else 11, by simp, by simp [hab], ?_, fun g hg => (by cases hg), fun g hg => (by cases hg), fun i hi _ g hg => ?_, fun g hg hlt => ?_⟩, q.on⟩
  · rw [if_neg (by omega), if_neg (by omega), if_pos rfl]
  · have h1 : g ≠ la := fun e => p.rg.nx i hi g hg (by rw [e]; simp)
    have h2 : g ≠ ba := fun e => p.rg.bn hi (e ▸ hg)
    have h3 := (p.rg.sg i hi).lt g hg
    rw [if_neg h1, if_neg h2, if_neg (by omega), if_pos ⟨i, hi, hg⟩]
  · have h1 := p.gl
    have h2 := p.rg.gb
    have h3 := p.on.size
    split at hlt
    · omega
    · split at hlt
      · omega
      · split at hlt
        · omega
        · split at hlt
          · rename_i he
            obtain ⟨i, hi, hg2⟩ := he
            exact p.rg.ge i hi g hg2
          · omega

/-- a part's first member, in memory -/
theorem GM.first {W : World} {n0 : Nat} {g : G} {T : TS} {o : Nat} {Aq : Option Addr} {cq tp : Nat} {rows : List Row} (h : GM W n0 g T o Aq cq tp rows) {q : Nat} (hq : q < T.parts.length) :
    ∃ bq oq br or_ len cap, Aq = some ⟨bq, oq, none⟩ ∧ bq < n0 ∧ br < n0 ∧ 0 < len ∧ W.cell? ⟨bq, oq + q, none⟩ = some (.slice (some ⟨br, or_, none⟩) len cap) ∧ W.cell? ⟨br, or_, none⟩ = some (.int .i64 (T.lst q : Nat)) ∧ ∃ r, r ∈ rows ∧ hdr r = .slice (some ⟨br, or_, none⟩) len cap ∧ r.xs = g.cls (T.lst q) := by
  have hrl : rows.length = T.parts.length := by rw [← h.xs, List.length_map]
  have hqr : q < rows.length := by omega
  obtain ⟨bq, oq, e, _, hc⟩ := h.sq (by rw [List.length_map]; omega)
  have hx : rows[q].xs = T.parts[q] := by
    have := congrArg (fun l => l[q]?) h.xs
    simpa [hqr, hq] using this
  obtain ⟨l1, l2, _⟩ := h.pd.lst hq
  have hcls : T.parts[q] = g.cls (T.lst q) := by
    have := (h.pd.pt l1).2.2
    rw [l2, List.getElem?_eq_getElem hq] at this
    exact Option.some.inj this
  have hlen : 0 < rows[q].xs.length := by rw [hx, hcls]; exact List.length_pos_of_mem (g.cls_self l1)
  obtain ⟨br, or_, e2, _, hc2⟩ := h.rd rows[q] (List.getElem_mem hqr) (by rw [natI_len]; exact hlen)
  have hlst : rows[q].xs[0] = T.lst q := by
    have e3 : T.lst q = gd T.parts[q] 0 := by unfold TS.lst; simp [hq]
    rw [e3]
    have e4 : gd T.parts[q] 0 = gd rows[q].xs 0 := by rw [hx]
    rw [e4]
    simp [gd, hlen]
  refine ⟨bq, oq, br, or_, rows[q].xs.length, rows[q].cap, e, h.qb bq (by rw [e]; simp [blk]), h.rb _ (List.getElem_mem hqr) hlen br (by rw [e2]; simp [blk]), hlen, ?_, ?_, rows[q], List.getElem_mem hqr, by unfold hdr; rw [e2], by rw [hx, hcls]⟩
  · have := hc q (by rw [List.length_map]; exact hqr)
    rw [this, List.getElem_map]
    unfold hdr
    rw [e2]
  · have := hc2 0 (by rw [natI_len]; exact hlen)
    rw [Nat.add_zero] at this
    rw [this]
    simp [natI, hlst]

theorem rdy_len (T : TS) (f : Nat → Bool) : (T.rdy f).length ≤ T.parts.length := by
  unfold TS.rdy
  rw [List.length_map]
  have := List.length_filter_le f (List.range T.parts.length)
  rwa [List.length_range] at this

theorem G.parts_len (g : G) (hg : g.ok) : g.parts.length ≤ g.n := by
  have hp := g.parts_parted hg
  have h1 := hp.len
  have h2 := hp.ne
  rw [← h1]
  generalize g.parts = L at *
  clear h1 hp
  induction L with
  | nil => simp
  | cons p r ih =>
    have := ih (fun q hq => h2 q (List.mem_cons_of_mem _ hq))
    have h3 : 0 < p.length := List.length_pos_iff.2 (h2 p (by simp))
    rw [List.length_cons, List.flatten_cons, List.length_append]
    omega

theorem cntD_le (X : List (Nat × Nat)) (D : Nat → Bool) (q : Nat) : cntD X D q ≤ X.length := List.length_filter_le _ _

/-- those that none leads from, below p -/
def TS.rdyTo (T : TS) (X : List (Nat × Nat)) (p : Nat) : List Nat := ((List.range p).filter fun q => leadN X q == 0).map T.lst
theorem TS.rdyTo_succ (T : TS) (X : List (Nat × Nat)) (p : Nat) : T.rdyTo X (p + 1) = T.rdyTo X p ++ (if leadN X p = 0 then [T.lst p] else []) := by
  unfold TS.rdyTo
  rw [List.range_succ, List.filter_append, List.map_append]
  by_cases h : leadN X p = 0 <;> simp [h]
theorem TS.rdyTo_len (T : TS) (X : List (Nat × Nat)) (p : Nat) : (T.rdyTo X p).length ≤ p := by
  unfold TS.rdyTo
  rw [List.length_map]
  have := List.length_filter_le (fun q => leadN X q == 0) (List.range p)
  rwa [List.length_range] at this

theorem cross_lt {g : G} (hg : g.ok) {T : TS} (h : Parted2 g T) (a b : Nat) (hm : (a, b) ∈ T.cross (g.all g.n)) : a < T.parts.length ∧ a ≠ b := by
  obtain ⟨u, v, hE, rfl, rfl, hne⟩ := (cross_mem hg).1 hm
  exact ⟨(h.pt (hg _ hE).1).2.1, hne⟩

theorem KI.small {g : G} {T : TS} {X : List (Nat × Nat)} {D : Nat → Bool} {lead : Nat → Nat} {xs : List Nat} {l : List (List Nat)} (k : KI g T X D lead xs l) (hg : g.ok) : xs.length ≤ T.parts.length ∧ l.length ≤ g.n := by
  refine ⟨by rw [k.perm.length_eq]; exact rdy_len _ _, ?_⟩
  have h1 := congrArg List.length k.out
  have h2 := g.parts_len hg
  rw [List.length_append] at h1
  omega
theorem KM.small {g : G} {T : TS} {X : List (Nat × Nat)} {D : Nat → Bool} {p j : Nat} {lead : Nat → Nat} {xs : List Nat} {l : List (List Nat)} (k : KM g T X D p j lead xs l) (hg : g.ok) : xs.length ≤ T.parts.length ∧ l.length ≤ g.parts.length ∧ ∀ q, lead q ≤ X.length := by
  refine ⟨by rw [k.perm.length_eq]; exact rdy_len _ _, ?_, fun q => ?_⟩
  · have h1 := congrArg List.length k.out
    rw [List.length_append] at h1
    omega
  · have h1 := k.ld q
    have h2 := cntD_le X D q
    omega

theorem Hp.least {xs : List Nat} (h : Hp xs) : ∀ y ∈ xs, gd xs 0 ≤ y := fun y hy => by
  obtain ⟨i, hi, e⟩ := List.getElem_of_mem hy
  have := h.min i i (Nat.le_refl _) hi
  rw [← e]
  have e2 : gd xs i = xs[i] := by simp [gd, hi]
  rwa [e2] at this
end Go.Proofs.YtohdcmmkbblhkaaGreatDoor.tj

/-
  tarjan: parts put in order: the walk.
-/
set_option linter.all false
namespace Go.Proofs.YtohdcmmkbblhkaaGreatDoor.tj
open Go.RowKit Go.Proofs.YtohdcmmkbblhkaaGreatDoor.mem

def OrPost (g : G) (w : World) (e : Ending) (W : World) : Prop := ∃ Al cl lrows, e = .returned (.slice Al (List.length lrows) cl) ∧ lrows.map (·.xs) = g.parts ∧ Seg W 71 Al cl (lrows.map hdr) ∧ (∀ r ∈ lrows, Rd W r.A (natI r.xs)) ∧ Below w.heap.size w W

theorem p1_new (w : World) (K : Nat) : P1 w ((w.alloc (.cells (iv (fun _ => 0) K) 3)).alloc (.cells (rv (fun _ => row0) K) 71)) K w.heap.size (w.heap.size + 1) (fun _ => row0) [] := by
  have h1 : Box (w.alloc (.cells (iv (fun _ => 0) K) 3)) w.heap.size 3 (iv (fun _ => 0) K) := Box.new _ _ _
  have h2 : Box ((w.alloc (.cells (iv (fun _ => 0) K) 3)).alloc (.cells (rv (fun _ => row0) K) 71)) (w.heap.size + 1) 71 (rv (fun _ => row0) K) := by
    have := Box.new (w.alloc (.cells (iv (fun _ => 0) K) 3)) 71 (rv (fun _ => row0) K)
    rwa [World.size_alloc] at this
  refine ⟨?_, rg_new (w := w) h2 (by omega) (fun x hx => by rw [List.mem_singleton] at hx; subst hx; simp; omega) (by simp), fun q _ => by simp [row0, backL], Nat.le_refl _, ((Below.refl w.heap.size w).alloc (Nat.le_refl _) _).alloc (by simp) _⟩
  have := h1.kept ((Fr.refl [] _).alloc (.cells (rv (fun _ => row0) K) 71)) (by simp)
  simpa [leadN] using this

set_option maxRecDepth 100000 in
set_option maxHeartbeats 4000000 in
theorem ordered_any (g : G) (hg : g.ok) (hn : g.n ≤ 100) (hE : g.E.length ≤ 1000) (w : World) (T : TS) (o : Nat) (Aq : Option Addr) (cq tp : Nat) (rows : List Row) (h : GM w w.heap.size g T o Aq cq tp rows) :
    Calls Tryz.prog 58 #[.slice (some ⟨o, 0, none⟩) g.n g.n, .slice Aq T.parts.length cq, .slice (some ⟨tp, 0, none⟩) g.n g.n] w (OrPost g w) := by
  obtain ⟨K, hK⟩ : ∃ K, Hid (T.parts.length = K) := ⟨_, Lib.hid rfl⟩
  have hKn : K ≤ g.n := by rw [← hK.out]; exact h.pd.parts_le
  have hmk := run_make_row' (P := Tryz.prog) 71 3 (.int .i64 0) 8 Tryz.underlying71 info_int rfl .i64 .i64 K (by omega) (by omega)
  rw [made_iv] at hmk
  have hmk2 := run_make_row' (P := Tryz.prog) 69 71 (.slice none 0 0) 24 Tryz.underlying69 info_row2 rfl .i64 .i64 K (by omega) (by omega)
  rw [made_rv] at hmk2
  obtain ⟨n, hN⟩ : ∃ n, Hid (g.n = n) := ⟨_, Lib.hid rfl⟩
  have hn' : n ≤ 100 := by rw [← hN.out]; exact hn
  have hKn' : K ≤ n := by rw [← hN.out]; exact hKn
  rw [hN.out, hK.out]
  have H := Lib.hid h
  have HG := Lib.hid hg
  have HEL := Lib.hid hE
  have hP0 := Lib.hid (p1_new w K)
  clear h hg hn hKn hE
  go_enter Tryz.func58, Tryz.ntmps58
  go_upto_region 3 with fail
  clear hmk hmk2
  have hP0 : Hid (P1 w ((w.alloc (.cells (iv (fun _ => 0) K) 3)).alloc (.cells (rv (fun _ => row0) K) 71)) K w.heap.size (w.heap.size + 1) (fun _ => row0) (T.cross (g.all 0))) := by
    have e : Hid (T.cross (g.all 0) = []) := Lib.hid (by simp [G.all, TS.cross])
    rw [e.out]; exact hP0
  generalize ((w.alloc (.cells (iv (fun _ => 0) K) 3)).alloc (.cells (rv (fun _ => row0) K) 71)) = w1 at *
  generalize hla : w.heap.size = la at *
  generalize hba : la + 1 = ba at *
  have HLA := Lib.hid hla
  have HLB := Lib.hid hba
  clear hla hba
  go_wp2_with fail
  go_loopw [28] (fun i wr => ∃ (m : Nat) (rws : Nat → Row), m ≤ n ∧ i = .int .i64 m ∧ Hid (P1 w wr K la ba rws (T.cross (g.all m)))) (fun i _ => n - (intOf i).toNat)
  case atStart => exact ⟨0, _, by omega, rfl, hP0⟩
  case round =>
    obtain ⟨m, rws, hm, rfl, hP⟩ := hrel
    clear hP0
    rename World => wr
    by_cases hmn : m < n
    · have d1 : decide ((m : Int) < (n : Int)) = true := decide_eq_true (by omega)
      have hmI : (m : Int) < (n : Int) := by omega
      obtain ⟨Ao, co, ko0, hro0, hbo0⟩ := H.out.om.row m (by rw [hN.out]; exact hmn)
      have HO := Lib.hid (And.intro hro0 hbo0)
      have hHO := H.out.om.lt
      have ko := (hP.out.on.cell (p := ⟨o, m, none⟩) (by rw [HLA.out]; exact hHO)).trans ko0
      obtain ⟨q, hq⟩ : ∃ q, Hid ((g.out m).length = q) := ⟨_, Lib.hid rfl⟩
      have hqb : q ≤ 1000 := by rw [← hq.out]; exact Nat.le_trans (g.out_le m) HEL.out
      rw [hq.out] at ko
      have hP1 : Hid (P1 w wr K la ba rws (T.cross (g.gone m 0))) := by
        have e : Hid (g.gone m 0 = g.all m) := Lib.hid (g.gone_zero m)
        rw [e.out]; exact hP
      clear ko0 hro0 hbo0 hHO hP
      go_wp2_with fail
      go_loopw [35] (fun i wr => ∃ (k : Nat) (rws : Nat → Row), k ≤ q ∧ i = .int .i64 k ∧ Hid (P1 w wr K la ba rws (T.cross (g.gone m k)))) (fun i _ => q - (intOf i).toNat)
      case atStart => exact ⟨0, _, by omega, rfl, hP1⟩
      case round =>
        obtain ⟨k, rws, hk, rfl, hP⟩ := hrel
        clear hP1 ko
        rename World => wr
        by_cases hkq : k < q
        · have d2 : decide ((k : Int) < (q : Int)) = true := decide_eq_true (by omega)
          have hkI : (k : Int) < (q : Int) := by omega
          have hkl : k < (g.out m).length := by rw [hq.out]; exact hkq
          obtain ⟨bo, oo, rfl, hlo, hco⟩ := HO.out.1 (by rw [natI_len]; omega)
          have hbl := HO.out.2 (by omega) bo (by simp [blk])
          have kt0 := hco k (by rw [natI_len]; exact hkl)
          have hgs := Lib.hid (g.gone_succ hkl)
          have htm := Lib.hid (List.getElem_mem hkl)
          have kt : wr.cell? ⟨bo, oo + k, none⟩ = some (.int .i64 (((g.out m)[k] : Nat) : Int)) := by
            rw [hP.out.on.cell (p := ⟨bo, oo + k, none⟩) (by rw [HLA.out]; exact hbl), kt0]
            simp [natI]
          clear kt0 hco hlo hbl
          generalize (g.out m)[k] = t at *
          have htn := (HG.out _ (g.mem_out.1 htm.out)).2
          have hmn' : m < g.n := by rw [hN.out]; exact hmn
          obtain ⟨pt1, pt2, _⟩ := H.out.pd.pt htn
          obtain ⟨pm1, pm2, _⟩ := H.out.pd.pt hmn'
          have hpl := H.out.pb
          have hbp : Box wr tp 3 (iv T.part g.n) := (hP.out.on.block tp (by rw [HLA.out]; exact hpl)).trans H.out.bp
          have HBP := Lib.hid hbp
          have ct := (hbp.cell t).trans (iv_at _ htn)
          have cm := (hbp.cell m).trans (iv_at _ hmn')
          rw [pt1] at ct
          rw [pm1] at cm
          have HPT := Lib.hid (And.intro pt1 pm1)
          rw [hK.out] at pt2 pm2
          have hcr := Lib.hid (T.cross_snoc (g.gone m k) (m, t))
          have htnI : (t : Int) < (n : Int) := by have := hN.out; omega
          have hcl : (T.cross (g.gone m k)).length ≤ 2000 := Nat.le_trans (T.cross_le _) (Nat.le_trans (g.gone_le HG.out m k) (by have := HEL.out; omega))
          have hcr : Hid (T.cross (g.gone m (k + 1)) = T.cross (g.gone m k) ++ (if T.pt t = T.pt m then [] else [(T.pt m, T.pt t)])) := Lib.hid (by rw [hgs.out]; exact hcr.out)
          clear pt1 pm1 hgs htm hmn' hbp
          generalize T.pt t = b at *
          generalize T.pt m = a at *
          generalize hX : T.cross (g.gone m k) = X at *
          have HX := Lib.hid hX
          clear hX
          by_cases hab : b = a
          · subst hab
            have d3 : ((b : Int) != (b : Int)) = false := by simp
            have hP2 : Hid (∀ i, P1 w (wr.drewN i) K la ba rws (T.cross (g.gone m (k + 1)))) := Lib.hid (fun i => by rw [hcr.out, if_pos rfl, List.append_nil]; exact hP.out.below (((Fr.refl [] wr).drewN i).all))
            clear hcr hP
            go_wp2_with fail
            go_quiet (fail)
            go_wp2_with fail
            go_roundw
            case rel => exact ⟨k + 1, rws, by omega, by go_num, Lib.hid (hP2.out _)⟩
            case measure => simp [intOf]; omega
          · have d3 : ((b : Int) != (a : Int)) = true := by simp; omega
            have hcr2 : Hid (T.cross (g.gone m (k + 1)) = X ++ [(a, b)]) := Lib.hid (by rw [hcr.out, if_neg hab])
            have hla0 := (hP.out.bl.cell a).trans (iv_at _ pm2)
            have hlaf := hP.out.bl.free a
            have hlx : leadN X a ≤ 2000 := Nat.le_trans (leadN_le X a) hcl
            have hwr : IntKind.i64.wrap ((leadN X a : Int) + 1) = ((leadN X a + 1 : Nat) : Int) := by
              rw [show ((leadN X a + 1 : Nat) : Int) = (leadN X a : Int) + 1 by omega]
              exact IntWalk.i64_in _ (by omega)
            have hbx : (backL X b).length ≤ 2000 := Nat.le_trans (backL_le X b) hcl
            have haI : (a : Int) < (K : Int) := by omega
            have hbI : (b : Int) < (K : Int) := by omega
            clear hcr hcl
            go_wp2_with fail
            go_quiet (fail)
            rename Nat => nq
            have hP2 := Lib.hid ((hP.out.below (((Fr.refl [] wr).drewN nq).all)).lead a)
            have HBP2 : Hid (Box (wr.drewN nq) tp 3 (iv T.part g.n)) := Lib.hid HBP.out
            clear HBP kt
            go_upto_region 11 with fail
            rw [show ((leadN X a : Int) + 1) = ((leadN X a + 1 : Nat) : Int) from rfl]
            have HPL := Lib.hid hpl
            clear HBP2 hla0 hlaf hwr ct cm hP
            generalize (wr.drewN nq).setCell ⟨la, a, none⟩ (.int .i64 ((leadN X a + 1 : Nat) : Int)) = w5 at *
            have hbp5 : Box w5 tp 3 (iv T.part g.n) := (hP2.out.on.block tp (by rw [HLA.out]; exact hpl)).trans H.out.bp
            have HBP5 := Lib.hid hbp5
            have ct : w5.cell? ⟨tp, t, none⟩ = some (.int .i64 (b : Int)) := by rw [(hbp5.cell t).trans (iv_at _ htn), HPT.out.1]
            have cm : w5.cell? ⟨tp, m, none⟩ = some (.int .i64 (a : Int)) := by rw [(hbp5.cell m).trans (iv_at _ (by rw [hN.out]; exact hmn)), HPT.out.2]
            have hz5 := hbp5.lt
            have hb5 := hP2.out.rg.bx.lt
            have hb5' := hb5
            have hs5 := hP2.out.on.size
            have ko : w5.cell? ⟨ba, b, none⟩ = some (.slice (rws b).A (rws b).xs.length (rws b).cap) := (hP2.out.rg.slot pt2 (Fr.refl _ w5)).1
            obtain ⟨i0, hi0, hz0, hz1, hz2⟩ := info_parts info_int
            have Hi := Lib.hid hi0
            have Hz0 := Lib.hid hz0
            have Hz1 := Lib.hid hz1
            have Hz2 := Lib.hid hz2
            have hle : Hid ((rws b).xs.length = (natI (rws b).xs).length) := Lib.hid (by rw [natI_len])
            have hxl : (rws b).xs.length ≤ 2000 := by rw [hP2.out.xs b pt2]; exact hbx
            have h63 : (rws b).xs.length + 1 ≤ 9223372036854775807 := by omega
            have hby : ((rws b).xs.length + 1) * 8 ≤ 140737488355328 := by omega
            clear hi0 hz0 hz1 hz2 hbp5 hs5
            go_wp2_with fail
            go_region_law
              ((refine step_push (u := .int .i64 (a : Nat)) (by rfl) (.tmp 68) (.tmp 73) _ (by rfl) ((hP2.out.rg.sg b pt2).drew.alloc _) hle.out Tryz.underlying71 Hi.out Hz0.out Hz1.out Hz2.out rfl (by rfl) (by rfl) (new_cell _ _ _) rfl h63 hby ?_; intro A2 cap2 w6 hs2 f2 hb2; have f6 := ((Fr.refl (blk (rws b).A) w5).drew.alloc _).trans f2 (fun g hg => Or.inl hg) (fun g hg => Or.inl hg); have q2 := hP2.out.rg.slot pt2 f6; have k2 := q2.1; have p2 := q2.2; have e2 := HBP5.out.kept f6 (fun hm => by have := hP2.out.rg.ge b pt2 tp hm; rw [HLA.out] at this; have := HPL.out; omega); have e3 : w6.cell? ⟨tp, t, none⟩ = some (.int .i64 (b : Int)) := by rw [(e2.cell t).trans (iv_at _ htn), HPT.out.1]))
            all_goals
              have hp6 : Hid (P1 w (w6.setCell ⟨ba, b, none⟩ (.slice A2 ((rws b).xs.length + 1) cap2)) K la ba (upd rws b ⟨A2, cap2, (rws b).xs ++ [a]⟩) (T.cross (g.gone m (k + 1)))) := Lib.hid (by
                rw [hcr2.out]
                exact hP2.out.back pt2 rfl hs2 f6 (fun g hg => by
                  rcases hb2 with e | e
                  · exact Or.inl (e ▸ hg)
                  · rw [e, List.mem_singleton] at hg
                    subst hg
                    exact Or.inr (by simp [World.drew])))
              clear hs2 f2 f6 hb2 q2 k2 p2 e2 e3 ct cm ko hP2 HBP5 hz5 hb5 hb5'
              generalize w6.setCell ⟨ba, b, none⟩ (.slice A2 ((rws b).xs.length + 1) cap2) = w7 at *
              go_wp2_with fail
              go_roundw
              case rel => exact ⟨k + 1, _, by omega, by go_num, hp6⟩
              case measure => simp [intOf]; omega
        · obtain rfl : k = q := by omega
          have d2 : decide ((k : Int) < (k : Int)) = false := decide_eq_false (by omega)
          have hP2 : Hid (P1 w wr K la ba rws (T.cross (g.all (m + 1)))) := by
            have e : Hid (g.gone m k = g.all (m + 1)) := Lib.hid (by rw [← hq.out]; exact g.gone_all m)
            rw [← e.out]; exact hP
          clear hP
          go_wp2_with fail
          go_roundw
          case rel => exact ⟨m + 1, rws, by omega, by go_num, hP2⟩
          case measure => simp [intOf]; omega
    · obtain rfl : m = n := by omega
      have d1 : decide ((m : Int) < (m : Int)) = false := decide_eq_false (by omega)
      go_upto_region 14 with fail
      have hX : Hid (T.cross (g.all m) = T.cross (g.all g.n)) := Lib.hid (by rw [hN.out])
      have hp3 := hP.out.p3
      have hxs := hP.out.xs
      have hpl := H.out.pb
      have HPL : Hid (tp < w.heap.size) := Lib.hid (by rw [HLA.out]; exact hpl)
      rw [hX.out] at hp3 hxs
      have hp3 := Lib.hid hp3
      have hcx := cross_lt HG.out H.out.pd
      clear hP hpl hX
      generalize hXX : T.cross (g.all g.n) = X at *
      have HX := Lib.hid hXX
      have HXS := Lib.hid hxs
      have HCX := Lib.hid hcx
      clear hxs hcx
      have HXB : X.length ≤ 1000 := by rw [← hXX]; exact Nat.le_trans (T.cross_le _) (Nat.le_trans (g.all_le HG.out _) HEL.out)
      clear hXX
      go_upto_region 15 with fail
      generalize wr.heap.size = h at *
      generalize wr.alloc (.cells #[.slice none 0 0] 127) = w2 at *
      have hp4 : Hid (P3 w w2 K la ba h none 0 [] none 0 [] (leadN X) rws ∧ Hp [] ∧ ([] : List Nat).Perm (T.rdyTo X 0)) := Lib.hid ⟨hp3.out, fun i _ hi => by simp at hi, by simp [TS.rdyTo]⟩
      clear hp3
      go_wp2_with fail
      go_loopw [82] (fun i wr => ∃ (p : Nat) (A : Option Addr) (c : Nat) (xs : List Nat), p ≤ K ∧ i = .int .i64 p ∧ Hid (P3 w wr K la ba h A c xs none 0 [] (leadN X) rws ∧ Hp xs ∧ xs.Perm (T.rdyTo X p))) (fun i _ => K - (intOf i).toNat)
      case atStart => exact ⟨0, _, _, _, by omega, rfl, hp4⟩
      case round =>
        obtain ⟨p, A, c, xs, hp, rfl, hI⟩ := hrel
        clear hp4
        rename World => wr
        by_cases hpK : p < K
        · have d2 : decide ((p : Int) < (K : Int)) = true := decide_eq_true (by omega)
          have hpI : (p : Int) < (K : Int) := by omega
          have cl0 := (hI.out.1.bl.cell p).trans (iv_at _ hpK)
          have hsu := Lib.hid (T.rdyTo_succ X p)
          by_cases hz : leadN X p = 0
          · have d3 : (((leadN X p : Nat) : Int) == 0) = true := by rw [hz]; rfl
            obtain ⟨bq, oq, br, or_, len, cap, hAq, hbq, hbr, hlen, cq1, cq2, _⟩ := (H.out.on (by rw [← HLA.out]; exact hI.out.1.on)).first (q := p) (by rw [hK.out]; exact hpK)
            have hlI : (0 : Int) < (len : Int) := by omega
            obtain ⟨x, hx⟩ : ∃ x, Hid (x = T.lst p) := ⟨_, Lib.hid rfl⟩
            rw [← hx.out] at cq2
            have hxl : xs.length ≤ 900 := by rw [hI.out.2.2.length_eq]; exact Nat.le_trans (T.rdyTo_len X p) (by omega)
            have KP := Lib.hid (hpush_any wr h A c xs hI.out.1.lh hI.out.2.1 hxl x)
            rw [hAq]
            go_wp2_with fail
            refine KP.out.mono ?_
            rintro e w3 ⟨rfl, ys, y1, y2, y3⟩
            obtain ⟨A', c', hp'⟩ := hI.out.1.heap y3
            have hI2 : Hid (P3 w w3 K la ba h A' c' ys none 0 [] (leadN X) rws ∧ Hp ys ∧ ys.Perm (T.rdyTo X (p + 1))) := Lib.hid ⟨hp', y1, by
              rw [hsu.out, if_pos hz, ← hx.out]
              exact y2.trans ((hI.out.2.2.cons x).trans (List.perm_append_comm (l₁ := [x]) (l₂ := T.rdyTo X p)))⟩
            clear hI hsu hz y1 y2 y3 hp' KP cl0 cq1 cq2 hAq
            go_wp2_with fail
            go_roundw
            case rel => exact ⟨p + 1, _, _, _, by omega, by go_num, hI2⟩
            case measure => simp [intOf]; omega
          · have d3 : (((leadN X p : Nat) : Int) == 0) = false := by simp; omega
            have hI2 : Hid (P3 w wr K la ba h A c xs none 0 [] (leadN X) rws ∧ Hp xs ∧ xs.Perm (T.rdyTo X (p + 1))) := Lib.hid ⟨hI.out.1, hI.out.2.1, by rw [hsu.out, if_neg hz, List.append_nil]; exact hI.out.2.2⟩
            clear hI hsu hz
            go_wp2_with fail
            go_roundw
            case rel => exact ⟨p + 1, A, c, xs, by omega, by go_num, hI2⟩
            case measure => simp [intOf]; omega
        · obtain rfl : p = K := by omega
          have d2 : decide ((p : Int) < (p : Int)) = false := decide_eq_false (by omega)
          have hI2 : Hid (P3 w wr p la ba h A c xs none 0 [] (leadN X) rws ∧ KI g T X (fun _ => false) (leadN X) xs []) := Lib.hid ⟨hI.out.1, by
            have h1 := hI.out.2.2
            rw [← HX.out] at h1 ⊢
            exact ki_start HG.out hI.out.2.1 (by rw [← hK.out] at h1; exact h1)⟩
          clear hI
          go_wp2_with fail
          go_loopg [16] (g.parts.length - 0) (fun gk s16 wr => ∃ (D : Nat → Bool) (lead : Nat → Nat) (A : Option Addr) (c : Nat) (xs : List Nat) (Al : Option Addr) (cl : Nat) (lrows : List Row), gk = g.parts.length - lrows.length ∧ s16 = .slice Al lrows.length cl ∧ Hid (P3 w wr p la ba h A c xs Al cl lrows lead rws ∧ KI g T X D lead xs (lrows.map (·.xs)) ∧ ∀ r ∈ lrows, r ∈ rows))
          case atStart => exact ⟨_, _, _, _, _, _, _, [], rfl, rfl, Lib.hid ⟨hI2.out.1, hI2.out.2, by simp⟩⟩
          case round =>
            obtain ⟨D, lead, A, c, xs, Al, cl, lrows, hgk, rfl, hI⟩ := hrel
            have HGK := Lib.hid hgk
            clear hI2 hgk
            rename World => wr
            have ch : wr.cell? ⟨h, 0, none⟩ = some (.slice A xs.length c) := hI.out.1.lh.bx.cell 0
            have KL := Lib.hid (len_any wr A c xs.length)
            have hsm := hI.out.2.1.small HG.out
            obtain ⟨q, hq⟩ : ∃ q, Hid (xs.length = q) := ⟨_, Lib.hid rfl⟩
            have hq100 : q ≤ 100 := by rw [← hq.out]; have := hK.out; omega
            obtain ⟨nl, hnl⟩ : ∃ nl, Hid (lrows.length = nl) := ⟨_, Lib.hid rfl⟩
            have hnl100 : nl ≤ 100 := by rw [← hnl.out]; have := hsm.2; rw [List.length_map] at this; have := hN.out; omega
            rw [hq.out] at ch KL
            rw [hnl.out]
            clear hsm
            by_cases hx0 : q = 0
            · subst hx0
              obtain rfl : xs = [] := List.length_eq_zero_iff.1 hq.out
              have fin : Hid (OrPost g w (.returned (.slice Al nl cl)) wr) := Lib.hid ⟨Al, cl, lrows, by rw [hnl.out], by
                have := hI.out.2.1
                rw [← HX.out] at this
                exact ki_end HG.out H.out.pd this, hI.out.1.sl, fun r hr => (H.out.on (by rw [← HLA.out]; exact hI.out.1.on)).rd r (hI.out.2.2 r hr), hI.out.1.on⟩
              clear hI
              go_wp2_with fail
              refine KL.out.mono ?_
              rintro e w3 ⟨rfl, he⟩
              obtain rfl : wr = w3 := he.symm
              clear KL
              go_wp2_with fail
              go_ret
              exact fin.out
            · have hq0 : 0 < q := by omega
              have hqI : (0 : Int) < (q : Int) := by omega
              have d4 : decide ((0 : Int) < (q : Int)) = true := decide_eq_true hqI
              have d4' : decide (0 < q) = true := decide_eq_true hq0
              have KO := Lib.hid (hpop_any wr h A c xs hI.out.1.lh hI.out.2.1.heap (by rw [hq.out]; exact hq0) (by rw [hq.out]; omega))
              have hmin := Lib.hid hI.out.2.1.heap.least
              generalize hx : gd xs 0 = x at *
              have hxx := Lib.hid hx
              clear hx
              have hta := ta_int (x : Int)
              go_wp2_with fail
              refine KL.out.mono ?_
              rintro e w3 ⟨rfl, he⟩
              obtain rfl : wr = w3 := he.symm
              clear KL
              go_wp2_with fail
              refine KO.out.mono ?_
              rintro e w3 ⟨he, ys, y1, y2, y3⟩
              rw [hxx.out] at he y2
              subst he
              obtain ⟨A', c', hp'⟩ := hI.out.1.heap y3
              have hkp := ki_pop HG.out H.out.pd (by have := hI.out.2.1; rw [← HX.out] at this; exact this) y1 y2 hmin.out
              rw [HX.out] at hkp
              obtain ⟨hxn, hkm, hpx⟩ := hkp
              have HP3 := Lib.hid hp'
              have HKM := Lib.hid hkm
              have HLR := Lib.hid hI.out.2.2
              have hgm := H.out.on (by rw [← HLA.out]; exact hp'.on)
              obtain ⟨px1, px2, _⟩ := H.out.pd.pt hxn
              obtain ⟨bq, oq, br, or_, len, cap, hAq, hbq, hbr, hlen, cq1, cq2, r, hr1, hr2, hr3⟩ := hgm.first px2
              have cx : w3.cell? ⟨tp, x, none⟩ = some (.int .i64 ((T.pt x : Nat) : Int)) := by rw [(hgm.bp.cell x).trans (iv_at _ hxn), px1]
              have hr4 : r.xs = g.cls x := by
                obtain ⟨l1, l2, _⟩ := H.out.pd.lst px2
                have := (H.out.pd.pt l1).2.2
                rw [l2, hpx] at this
                rw [hr3]
                exact (Option.some.inj this).symm
              have HR := Lib.hid (And.intro hr1 (And.intro hr2 hr4))
              rw [hK.out] at px2
              have hxI : (x : Int) < (m : Int) := by have := hN.out; omega
              clear hI hmin y1 y2 y3 hp' hkm hpx px1 cq2 hgm hr1 hr2 hr3 hr4 KO hxx ch
              generalize T.pt x = pp at *
              have hpI : (pp : Int) < (p : Int) := by omega
              obtain ⟨i0, hi0, hz0, hz1, hz2⟩ := info_parts info_row2
              have Hi := Lib.hid hi0
              have Hz0 := Lib.hid hz0
              have Hz1 := Lib.hid hz1
              have Hz2 := Lib.hid hz2
              have hsg := Lib.hid (HP3.out.sl.alloc (.cells #[.slice (some ⟨br, or_, none⟩) len cap] 71))
              have hlen2 : Hid (nl = (lrows.map hdr).length) := Lib.hid (by rw [List.length_map, hnl.out])
              have cb0 := (HP3.out.bb.cell pp).trans (rv_at _ px2)
              clear hi0 hz0 hz1 hz2
              rw [hAq]
              have HAQ := Lib.hid hAq
              have cb : w3.cell? ⟨ba, pp, none⟩ = some (.slice (rws pp).A (rws pp).xs.length (rws pp).cap) := cb0
              have hbb := HP3.out.bb.lt
              go_wp2_with (at_builtin
                           refine wpList_push (u := .slice (some ⟨br, or_, none⟩) len cap) rfl (.tmp 113) (.tmp 118) _ rfl hsg.out hlen2.out Tryz.underlying69 Hi.out Hz0.out Hz1.out Hz2.out rfl rfl rfl (new_cell _ _ _) rfl (by omega) (by omega) ?_
                           intro A5 c5 w5 hs5 f5 b5
                           have Q := HP3.out.put (W' := w5) (r := r) (by rw [HR.out.2.1]; exact hs5) (((Fr.refl [] w3).alloc _).trans f5 (by simp) (fun g hg => Or.inl hg)) (fun g hg => by
                             rcases b5 with e | e
                             · exact Or.inl (e ▸ hg)
                             · rw [e, List.mem_singleton] at hg
                               subst hg
                               exact Or.inr (by simp))
                           have hQ := Lib.hid Q
                           have cb5 : w5.cell? ⟨ba, pp, none⟩ = some (.slice (rws pp).A (rws pp).xs.length (rws pp).cap) := (Q.bb.cell pp).trans (rv_at _ px2)
                           clear Q hs5 f5 b5 cb)
              have hrx := HXS.out pp px2
              obtain ⟨qb, hqb⟩ : ∃ qb, Hid ((rws pp).xs.length = qb) := ⟨_, Lib.hid rfl⟩
              obtain ⟨Ab, hAb⟩ : ∃ Ab, Hid ((rws pp).A = Ab) := ⟨_, Lib.hid rfl⟩
              have hqbb : qb ≤ 1000 := by rw [← hqb.out, hrx]; exact Nat.le_trans (backL_le X pp) HXB
              have HRX := Lib.hid hrx
              rw [hqb.out, hAb.out]
              have hM : Hid (P3 w w5 p la ba h A' c' ys A5 c5 (lrows ++ [r]) lead rws ∧ KM g T X D pp 0 lead ys ((lrows ++ [r]).map (·.xs))) := Lib.hid ⟨hQ.out, by
                have := HKM.out
                rw [List.map_append, List.map_singleton, HR.out.2.2]
                exact this⟩
              have hlt : Hid (g.parts.length - (lrows ++ [r]).length < gk) := Lib.hid (by
                have h1 := (HKM.out.small HG.out).2.1
                have h2 := HGK.out
                simp at h1 ⊢
                omega)
              have hlen3 : Hid ((lrows ++ [r]).length = nl + 1) := Lib.hid (by simp [hnl.out])
              have HLR2 : Hid (∀ x ∈ lrows ++ [r], x ∈ rows) := Lib.hid (fun x hx => by
                rcases List.mem_append.1 hx with hx | hx
                · exact HLR.out x hx
                · rw [List.mem_singleton] at hx; rw [hx]; exact HR.out.1)
              clear hQ HKM HLR HR hrx cb5 hsg hlen2 HP3 cx cq1 hta Hi Hz0 Hz1 Hz2 HGK hbb hAq cb0
              go_loopw [125] (fun i wr => ∃ (k : Nat) (lead : Nat → Nat) (A : Option Addr) (c : Nat) (xs : List Nat), k ≤ qb ∧ i = .int .i64 k ∧ Hid (P3 w wr p la ba h A c xs A5 c5 (lrows ++ [r]) lead rws ∧ KM g T X D pp k lead xs ((lrows ++ [r]).map (·.xs)))) (fun i _ => qb - (intOf i).toNat)
              case atStart => exact ⟨0, _, _, _, _, by omega, rfl, hM⟩
              case round =>
                obtain ⟨k, lead, A, c, xs, hk, rfl, hI⟩ := hrel
                clear hM
                rename World => wr
                by_cases hkq : k < qb
                · have d5 : decide ((k : Int) < (qb : Int)) = true := decide_eq_true (by omega)
                  have hkI : (k : Int) < (qb : Int) := by omega
                  have hlq : k < (natI (rws pp).xs).length := by rw [natI_len, hqb.out]; exact hkq
                  obtain ⟨gb, ob, hA2, hgb, hcb⟩ := hI.out.1.br pp px2 (by omega)
                  rw [hAb.out] at hA2
                  subst hA2
                  have hkb : k < (backL X pp).length := by rw [← HRX.out, hqb.out]; exact hkq
                  have cb : wr.cell? ⟨gb, ob + k, none⟩ = some (.int .i64 (((backL X pp)[k] : Nat) : Int)) := by
                    rw [hcb k hlq]
                    have e : (rws pp).xs[k]? = (backL X pp)[k]? := by rw [HRX.out]
                    simp [hkb, show k < (rws pp).xs.length by rw [hqb.out]; exact hkq] at e
                    simp [natI, e]
                  obtain ⟨b, hb⟩ : ∃ b, Hid ((backL X pp)[k]? = some b) := ⟨_, Lib.hid (List.getElem?_eq_getElem hkb)⟩
                  have hbe : (backL X pp)[k] = b := by have := hb.out; rw [List.getElem?_eq_getElem hkb] at this; exact Option.some.inj this
                  rw [hbe] at cb
                  obtain ⟨hbK, hb0, hst1, hst2⟩ := km_step HCX.out hI.out.2 hb.out
                  have hst1 := Lib.hid hst1
                  have hst2 := Lib.hid hst2
                  have hbl := (hI.out.2.small HG.out).2.2 b
                  have hxl := (hI.out.2.small HG.out).1
                  have hHP := Lib.hid hI.out.2.heap
                  have HBK := Lib.hid hbK
                  rw [hK.out] at hbK hxl
                  have hbI : (b : Int) < (p : Int) := by omega
                  have cl0 := (hI.out.1.bl.cell b).trans (iv_at _ hbK)
                  have hlf := hI.out.1.bl.free b
                  have hp1 := Lib.hid (hI.out.1.setLead b (lead b - 1))
                  clear hlq hgb hcb hkb hbe hb hI
                  generalize hv : lead b = v at *
                  have hv1 : (1 : Int) ≤ (v : Int) := by omega
                  clear hv
                  go_upto_region 29 with fail
                  have hsub : ((v : Int) - 1) = ((v - 1 : Nat) : Int) := by omega
                  rw [hsub]
                  clear hsub
                  generalize wr.setCell ⟨la, b, none⟩ (.int .i64 ((v - 1 : Nat) : Int)) = w7 at *
                  generalize hu : v - 1 = u at *
                  have huv := Lib.hid (show v = u + 1 by omega)
                  clear hu cb cl0 hlf hv1
                  have cl7 : w7.cell? ⟨la, b, none⟩ = some (.int .i64 (u : Int)) := by
                    have := (hp1.out.bl.cell b).trans (iv_at _ hbK)
                    rw [upd_same] at this
                    exact this
                  by_cases hu0 : u = 0
                  · subst hu0
                    have d6 : (((0 : Nat) : Int) == 0) = true := rfl
                    obtain ⟨bq2, oq2, br, or_, len, cap, hAq2, hbq, hbr, hlen, cq1, cq2, _⟩ := (H.out.on (by rw [← HLA.out]; exact hp1.out.on)).first HBK.out
                    rw [HAQ.out] at hAq2
                    obtain ⟨rfl, rfl⟩ : bq = bq2 ∧ oq = oq2 := by simpa using hAq2
                    have hlI : (0 : Int) < (len : Int) := by omega
                    obtain ⟨x, hx⟩ : ∃ x, Hid (x = T.lst b) := ⟨_, Lib.hid rfl⟩
                    rw [← hx.out] at cq2
                    have KP := Lib.hid (hpush_any w7 h A c xs hp1.out.lh hHP.out (by omega) x)
                    have hst := Lib.hid (hst2.out (by have := huv.out; omega))
                    clear hAq2 hst1 hst2
                    go_wp2_with fail
                    refine KP.out.mono ?_
                    rintro e w8 ⟨rfl, zs, y1, y2, y3⟩
                    obtain ⟨A8, c8, hp8⟩ := hp1.out.heap y3
                    have hI2 : Hid (P3 w w8 p la ba h A8 c8 zs A5 c5 (lrows ++ [r]) (upd lead b 0) rws ∧ KM g T X D pp (k + 1) (upd lead b 0) zs ((lrows ++ [r]).map (·.xs))) := Lib.hid ⟨hp8, hst.out zs y1 (by rw [← hx.out]; exact y2)⟩
                    clear y1 y2 y3 hp8 KP hst hp1 cq1 cq2 cl7 hHP
                    go_wp2_with fail
                    go_roundw
                    case rel => exact ⟨k + 1, _, _, _, _, by omega, by go_num, hI2⟩
                    case measure => simp [intOf]; omega
                  · have d6 : ((u : Int) == 0) = false := by simp; omega
                    have hI2 : Hid (P3 w w7 p la ba h A c xs A5 c5 (lrows ++ [r]) (upd lead b u) rws ∧ KM g T X D pp (k + 1) (upd lead b u) xs ((lrows ++ [r]).map (·.xs))) := Lib.hid ⟨hp1.out, hst1.out (by have := huv.out; omega)⟩
                    clear hst1 hst2 hp1
                    go_wp2_with fail
                    go_roundw
                    case rel => exact ⟨k + 1, _, _, _, _, by omega, by go_num, hI2⟩
                    case measure => simp [intOf]; omega
                · obtain rfl : k = qb := by omega
                  have d5 : decide ((k : Int) < (k : Int)) = false := decide_eq_false (by omega)
                  have hki := hI.out.2
                  rw [← hqb.out, HRX.out] at hki
                  have hI2 : Hid (P3 w wr p la ba h A c xs A5 c5 (lrows ++ [r]) lead rws ∧ KI g T X (fun k => D k || k == pp) lead xs ((lrows ++ [r]).map (·.xs)) ∧ ∀ x ∈ lrows ++ [r], x ∈ rows) := Lib.hid ⟨hI.out.1, km_end hki, HLR2.out⟩
                  clear hI hki
                  go_wp2_with fail
                  rw [← HAQ.out]
                  go_roundg (g.parts.length - (lrows ++ [r]).length)
                  case rel => exact ⟨_, _, _, _, _, _, _, _, rfl, by rw [hlen3.out], hI2⟩
                  case measure => exact hlt.out
end Go.Proofs.YtohdcmmkbblhkaaGreatDoor.tj

/-
  tarjan: Parts, Round.
-/
set_option linter.all false
namespace Go.Proofs.YtohdcmmkbblhkaaGreatDoor.tj
open Go.RowKit Go.Proofs.YtohdcmmkbblhkaaGreatDoor.mem

/-- rows that were handed out -/
def PaPost (w : World) (L : List (List Nat)) (e : Ending) (W : World) : Prop := ∃ A c rows, e = .returned (.slice A (List.length rows) c) ∧ List.map (·.xs) rows = L ∧ Seg W 71 A c (List.map hdr rows) ∧ (∀ r ∈ rows, Rd W r.A (natI r.xs)) ∧ Below w.heap.size w W

theorem gof_len (n : Int) (l : List (Int × Int)) : (gof n l).E.length ≤ l.length := by
  unfold gof
  rw [List.length_map]
  exact List.length_filter_le _ _

theorem OU.om {w W : World} {n : Int} {l : List (Int × Int)} {o : Nat} {rows : Nat → Row} (h : OU w W n l o l.length rows) : OM W W.heap.size o (gof n l) :=
  RG.om (g := gof n l) h.rg (fun i hi => by rw [h.xs i hi, outN_all])

set_option maxRecDepth 100000 in
theorem parts_any (n : Int) (hn : n ≤ 100) (A : Option Addr) (cap : Nat) (l : List (Int × Int)) (hl : l.length ≤ 1000) (w : World) (h : Eds w A l) :
    Calls Tryz.prog 36 #[.int .i64 n, .slice A l.length cap] w (PaPost w (gof n l).parts) := by
  have KO := Lib.hid (outs_any n hn A cap l hl w h)
  obtain ⟨m, hm⟩ : ∃ m, Hid ((gof n l).n = m) := ⟨_, Lib.hid rfl⟩
  have hm2 : Hid (n.toNat = m) := Lib.hid hm.out
  have hgn : (gof n l).n ≤ 100 := by show n.toNat ≤ 100; omega
  have hgE : (gof n l).E.length ≤ 1000 := Nat.le_trans (gof_len n l) hl
  have hgo : ∀ u, ((gof n l).out u).length ≤ 1000 := fun u => Nat.le_trans (G.out_le _ u) hgE
  have HP := Lib.hid (And.intro hgn (And.intro hgE hgo))
  clear h hgn hgE hgo
  go_enter Tryz.func36, Tryz.ntmps36
  go_wp2_with fail
  refine KO.out.mono ?_
  rintro e w1 ⟨o, rows, he, h1⟩
  rw [hm2.out] at he
  subst he
  have H1 := Lib.hid h1
  have KD := parted_any (gof n l) (gof_ok n l) HP.out.1 HP.out.2.2 w1 o h1.om
  rw [hm.out] at KD
  have KD := Lib.hid KD
  clear h1 KO
  go_wp2_with fail
  refine KD.out.mono ?_
  rintro e w2 ⟨T, Aq, cq, tp, rws, he, p2, b2⟩
  rw [hm.out] at he
  subst he
  have hgm := p2.gm ((H1.out.om.below b2 : OM w2 _ o (gof n l)) |> fun h => ⟨Nat.lt_of_lt_of_le h.lt b2.size, fun v hv => by
    obtain ⟨A, c, x1, x2, x3⟩ := h.row v hv
    exact ⟨A, c, x1, x2, fun hz x hx => Nat.lt_of_lt_of_le (x3 hz x hx) b2.size⟩⟩)
  have KR := ordered_any (gof n l) (gof_ok n l) HP.out.1 HP.out.2.1 w2 T o Aq cq tp rws hgm
  rw [hm.out] at KR
  have KR := Lib.hid KR
  have B2 := Lib.hid (H1.out.on.trans (b2.mono H1.out.on.size))
  clear p2 hgm b2 KD
  go_wp2_with fail
  refine KR.out.mono ?_
  rintro e w3 ⟨Al, cl, lrows, he, x1, x2, x3, x4⟩
  subst he
  have fin : Hid (PaPost w (gof n l).parts (.returned (.slice Al lrows.length cl)) w3) := Lib.hid ⟨Al, cl, lrows, rfl, x1, x2, x3, B2.out.trans (x4.mono B2.out.size)⟩
  clear x1 x2 x3 x4 KR
  go_wp2_with fail
  go_ret
  exact fin.out
end Go.Proofs.YtohdcmmkbblhkaaGreatDoor.tj
