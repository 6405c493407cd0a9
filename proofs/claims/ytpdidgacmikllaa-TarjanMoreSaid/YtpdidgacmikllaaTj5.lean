/-
  tarjan: parts put in order, in memory: what is taken, one by one.
-/
import Derived.Test.YtpdidgacmikllaaTj3
import Derived.Test.YtpdidgacmikllaaTjZ
namespace Go.Proofs.Ytpdidgacmikllaa.tj
open Go.RowKit Go.Proofs.Ytpdidgacmikllaa.mem

structure T3 (w W : World) (K la ba h : Nat) (A Al : Option Addr) (rws : Nat → Row) (tag : Nat → Nat) : Prop where
  t0 : tag la = 0
  t1 : tag ba = 1
  t2 : tag h = 2
  t2' : ∀ g ∈ blk A, tag g = 2
  t3 : ∀ g ∈ blk Al, tag g = 3
  t4 : ∀ q, q < K → 0 < (rws q).xs.length → ∀ g ∈ blk (rws q).A, tag g = 4
  ge : ∀ g, g < W.heap.size → tag g < 5 → w.heap.size ≤ g

structure P3 (w W : World) (K la ba h : Nat) (A : Option Addr) (c : Nat) (xs : List Nat) (Al : Option Addr) (cl : Nat) (lrows : List Row) (lead : Nat → Nat) (rws : Nat → Row) : Prop where
  bl : Box W la 3 (iv (fun q => (lead q : Nat)) K)
  bb : Box W ba 32 (rv rws K)
  br : ∀ q, q < K → Rd W (rws q).A (natI (rws q).xs)
  lh : LH W h A c xs
  sl : Seg W 32 Al cl (lrows.map hdr)
  tg : ∃ tag, T3 w W K la ba h A Al rws tag
  on : Below w.heap.size w W

section
variable {w W W' : World} {K la ba h : Nat} {A : Option Addr} {c : Nat} {xs : List Nat} {Al : Option Addr} {cl : Nat} {lrows : List Row} {lead : Nat → Nat} {rws : Nat → Row}

theorem T3.grow {tag : Nat → Nat} (t : T3 w W K la ba h A Al rws tag) (hs : W.heap.size ≤ W'.heap.size) (hn : w.heap.size ≤ W.heap.size) : T3 w W' K la ba h A Al rws tag :=
  ⟨t.t0, t.t1, t.t2, t.t2', t.t3, t.t4, fun g hg hlt => by
    rcases Nat.lt_or_ge g W.heap.size with h1 | h1
    · exact t.ge g h1 hlt
    · omega⟩

theorem rd_lt {W : World} {A : Option Addr} {xs : List Value} (h : Rd W A xs) (hz : 0 < xs.length) : ∀ g ∈ blk A, g < W.heap.size := fun g hg => by
  obtain ⟨b, off, e, hl, _⟩ := h hz
  rw [e, blk_some, List.mem_singleton] at hg
  omega

/-- the tags, where what is new from here on is of a kind -/
theorem P3.newer (p : P3 w W K la ba h A c xs Al cl lrows lead rws) {tag : Nat → Nat} (t : T3 w W K la ba h A Al rws tag) (k : Nat) : T3 w W K la ba h A Al rws (tag2 tag W.heap.size k) := by
  refine ⟨by rw [tag2_old p.bl.lt]; exact t.t0, by rw [tag2_old p.bb.lt]; exact t.t1, by rw [tag2_old p.lh.bx.lt]; exact t.t2, fun g hg => by rw [tag2_old (p.lh.sq.lt g hg)]; exact t.t2' g hg, fun g hg => by rw [tag2_old (p.sl.lt g hg)]; exact t.t3 g hg, fun q hq hz g hg => by rw [tag2_old (rd_lt (p.br q hq) (by rw [natI_len]; exact hz) g hg)]; exact t.t4 q hq hz g hg, fun g hg hlt => ?_⟩
  rw [tag2_old hg] at hlt
  exact t.ge g hg hlt

theorem P3.k0 (p : P3 w W K la ba h A c xs Al cl lrows lead rws) {tag : Nat → Nat} (t : T3 w W K la ba h A Al rws tag) {k : Nat} (hk : k ≠ 0) (hf : FrP (fun g => tag g = k) W W') : Box W' la 3 (iv (fun q => (lead q : Nat)) K) := hf.box p.bl (fun e => hk (e.symm.trans t.t0))
theorem P3.k1 (p : P3 w W K la ba h A c xs Al cl lrows lead rws) {tag : Nat → Nat} (t : T3 w W K la ba h A Al rws tag) {k : Nat} (hk : k ≠ 1) (hf : FrP (fun g => tag g = k) W W') : Box W' ba 32 (rv rws K) := hf.box p.bb (fun e => hk (e.symm.trans t.t1))
theorem P3.k2 (p : P3 w W K la ba h A c xs Al cl lrows lead rws) {tag : Nat → Nat} (t : T3 w W K la ba h A Al rws tag) {k : Nat} (hk : k ≠ 2) (hf : FrP (fun g => tag g = k) W W') : LH W' h A c xs := ⟨hf.box p.lh.bx (fun e => hk (e.symm.trans t.t2)), hf.seg p.lh.sq (fun g hg e => hk (e.symm.trans (t.t2' g hg)))⟩
theorem P3.k3 (p : P3 w W K la ba h A c xs Al cl lrows lead rws) {tag : Nat → Nat} (t : T3 w W K la ba h A Al rws tag) {k : Nat} (hk : k ≠ 3) (hf : FrP (fun g => tag g = k) W W') : Seg W' 32 Al cl (lrows.map hdr) := hf.seg p.sl (fun g hg e => hk (e.symm.trans (t.t3 g hg)))
theorem P3.k4 (p : P3 w W K la ba h A c xs Al cl lrows lead rws) {tag : Nat → Nat} (t : T3 w W K la ba h A Al rws tag) {k : Nat} (hk : k ≠ 4) (hf : FrP (fun g => tag g = k) W W') : ∀ q, q < K → Rd W' (rws q).A (natI (rws q).xs) := fun q hq hz => hf.rd (p.br q hq) (fun g hg e => hk (e.symm.trans (t.t4 q hq (by rwa [natI_len] at hz) g hg))) hz
theorem P3.fr (p : P3 w W K la ba h A c xs Al cl lrows lead rws) {tag : Nat → Nat} (t : T3 w W K la ba h A Al rws tag) {k : Nat} (hk : k < 5) (hf : FrP (fun g => tag g = k) W W') : Below w.heap.size w W' := p.on.trans (hf.below p.on.size (fun g hg e => t.ge g hg (by omega)))

theorem P3.below (p : P3 w W K la ba h A c xs Al cl lrows lead rws) (hb : Below W.heap.size W W') : P3 w W' K la ba h A c xs Al cl lrows lead rws := by
  obtain ⟨tag, t⟩ := p.tg
  have hf : FrP (fun g => tag g = 9) W W' := FrP.of_below hb
  exact ⟨p.k0 t (by omega) hf, p.k1 t (by omega) hf, p.k4 t (by omega) hf, p.k2 t (by omega) hf, p.k3 t (by omega) hf, ⟨tag, t.grow hb.size p.on.size⟩, p.on.trans (hb.mono p.on.size)⟩

/-- the heap is changed -/
theorem P3.heap (p : P3 w W K la ba h A c xs Al cl lrows lead rws) {ys : List Nat} (hh : HP W W' h A ys) : ∃ A' c', P3 w W' K la ba h A' c' ys Al cl lrows lead rws := by
  obtain ⟨A', c', l, f, b⟩ := hh
  obtain ⟨tag0, t0⟩ := p.tg
  have t := p.newer t0 2
  generalize htag : tag2 tag0 W.heap.size 2 = tag at t
  have hf : FrP (fun g => tag g = 2) W W' := FrP.of_fr f (fun g hg => by
    rcases List.mem_cons.1 hg with rfl | hg
    · exact t.t2
    · exact t.t2' g hg)
  have tg := t.grow f.size p.on.size
  refine ⟨A', c', p.k0 t (by omega) hf, p.k1 t (by omega) hf, p.k4 t (by omega) hf, l, p.k3 t (by omega) hf, ⟨tag, tg.t0, tg.t1, tg.t2, fun g hg => ?_, tg.t3, tg.t4, tg.ge⟩, p.fr t (by omega) hf⟩
  rcases b g hg with e | e
  · exact t.t2' g e
  · rw [← htag]; exact tag2_new e

/-- a count is changed -/
theorem P3.setLead (p : P3 w W K la ba h A c xs Al cl lrows lead rws) (b x : Nat) : P3 w (W.setCell ⟨la, b, none⟩ (.int .i64 (x : Nat))) K la ba h A c xs Al cl lrows (upd lead b x) rws := by
  obtain ⟨tag, t⟩ := p.tg
  have hf := set_frp (W := W) (i := b) t.t0 (.int .i64 (x : Nat))
  refine ⟨?_, p.k1 t (by omega) hf, p.k4 t (by omega) hf, p.k2 t (by omega) hf, p.k3 t (by omega) hf, ⟨tag, t.grow hf.size p.on.size⟩, p.fr t (by omega) hf⟩
  have := p.bl.put b (.int .i64 (x : Nat))
  rwa [iv_set, iv_upd_nat] at this

/-- a part more stands -/
theorem P3.put (p : P3 w W K la ba h A c xs Al cl lrows lead rws) {A' : Option Addr} {c' : Nat} {r : Row} (hs : Seg W' 32 A' c' (lrows.map hdr ++ [hdr r])) (f : Fr (blk Al) W W') (b : ∀ g ∈ blk A', g ∈ blk Al ∨ W.heap.size ≤ g) : P3 w W' K la ba h A c xs A' c' (lrows ++ [r]) lead rws := by
  obtain ⟨tag0, t0⟩ := p.tg
  have t := p.newer t0 3
  generalize htag : tag2 tag0 W.heap.size 3 = tag at t
  have hf : FrP (fun g => tag g = 3) W W' := FrP.of_fr f (fun g hg => t.t3 g hg)
  have tg := t.grow f.size p.on.size
  refine ⟨p.k0 t (by omega) hf, p.k1 t (by omega) hf, p.k4 t (by omega) hf, p.k2 t (by omega) hf, by rw [List.map_append]; exact hs, ⟨tag, tg.t0, tg.t1, tg.t2, tg.t2', fun g hg => ?_, tg.t4, tg.ge⟩, p.fr t (by omega) hf⟩
  rcases b g hg with e | e
  · exact t.t3 g e
  · rw [← htag]; exact tag2_new e
end

/-- the heap is made -/
theorem P1.p3 {w W : World} {K la ba : Nat} {rws : Nat → Row} {X : List (Nat × Nat)} (p : P1 w W K la ba rws X) : P3 w (W.alloc (.cells #[.slice none 0 0] 60)) K la ba W.heap.size none 0 [] none 0 [] (leadN X) rws := by
  classical
  have hb : Below W.heap.size W (W.alloc (.cells #[.slice none 0 0] 60)) := (Below.refl _ _).alloc (Nat.le_refl _) _
  have q := p.below hb
  have hll := p.bl.lt
  have hbl := p.rg.bx.lt
  have hab : ba ≠ la := fun e => p.rg.xb (by rw [e]; simp)
  refine ⟨q.bl, q.rg.bx, fun i hi => (q.rg.sg i hi).rd, ⟨Box.new _ _ _, Seg.nil _ _⟩, Seg.nil _ _, ⟨fun g => if g = la then 0 else if g = ba then 1 else if g = W.heap.size then 2 else if ∃ i, i < K ∧ g ∈ blk (rws i).A then 4 else 11, by simp, by simp [hab], ?_, fun g hg => (by cases hg), fun g hg => (by cases hg), fun i hi _ g hg => ?_, fun g hg hlt => ?_⟩, q.on⟩
  · rw [if_neg (by omega), if_neg (by omega), if_pos rfl]
  · have h1 : g ≠ la := fun e => p.rg.nx i hi g hg (by rw [e]; simp)
    have h2 : g ≠ ba := fun e => p.rg.bn hi (e ▸ hg)
    have h3 := (p.rg.sg i hi).lt g hg
    rw [if_neg h1, if_neg h2, if_neg (by omega), if_pos ⟨i, hi, hg⟩]
  · have h1 := p.gl
    have h2 := p.rg.gb
    have h3 := p.on.size
    split at hlt
    · omega
    · split at hlt
      · omega
      · split at hlt
        · omega
        · split at hlt
          · rename_i he
            obtain ⟨i, hi, hg2⟩ := he
            exact p.rg.ge i hi g hg2
          · omega

/-- a part's first member, in memory -/
theorem GM.first {W : World} {n0 : Nat} {g : G} {T : TS} {o : Nat} {Aq : Option Addr} {cq tp : Nat} {rows : List Row} (h : GM W n0 g T o Aq cq tp rows) {q : Nat} (hq : q < T.parts.length) :
    ∃ bq oq br or_ len cap, Aq = some ⟨bq, oq, none⟩ ∧ bq < n0 ∧ br < n0 ∧ 0 < len ∧ W.cell? ⟨bq, oq + q, none⟩ = some (.slice (some ⟨br, or_, none⟩) len cap) ∧ W.cell? ⟨br, or_, none⟩ = some (.int .i64 (T.lst q : Nat)) ∧ ∃ r, r ∈ rows ∧ hdr r = .slice (some ⟨br, or_, none⟩) len cap ∧ r.xs = g.cls (T.lst q) := by
  have hrl : rows.length = T.parts.length := by rw [← h.xs, List.length_map]
  have hqr : q < rows.length := by omega
  obtain ⟨bq, oq, e, _, hc⟩ := h.sq (by rw [List.length_map]; omega)
  have hx : rows[q].xs = T.parts[q] := by
    have := congrArg (fun l => l[q]?) h.xs
    simpa [hqr, hq] using this
  obtain ⟨l1, l2, _⟩ := h.pd.lst hq
  have hcls : T.parts[q] = g.cls (T.lst q) := by
    have := (h.pd.pt l1).2.2
    rw [l2, List.getElem?_eq_getElem hq] at this
    exact Option.some.inj this
  have hlen : 0 < rows[q].xs.length := by rw [hx, hcls]; exact List.length_pos_of_mem (g.cls_self l1)
  obtain ⟨br, or_, e2, _, hc2⟩ := h.rd rows[q] (List.getElem_mem hqr) (by rw [natI_len]; exact hlen)
  have hlst : rows[q].xs[0] = T.lst q := by
    have e3 : T.lst q = gd T.parts[q] 0 := by unfold TS.lst; simp [hq]
    rw [e3]
    have e4 : gd T.parts[q] 0 = gd rows[q].xs 0 := by rw [hx]
    rw [e4]
    simp [gd, hlen]
  refine ⟨bq, oq, br, or_, rows[q].xs.length, rows[q].cap, e, h.qb bq (by rw [e]; simp [blk]), h.rb _ (List.getElem_mem hqr) hlen br (by rw [e2]; simp [blk]), hlen, ?_, ?_, rows[q], List.getElem_mem hqr, by unfold hdr; rw [e2], by rw [hx, hcls]⟩
  · have := hc q (by rw [List.length_map]; exact hqr)
    rw [this, List.getElem_map]
    unfold hdr
    rw [e2]
  · have := hc2 0 (by rw [natI_len]; exact hlen)
    rw [Nat.add_zero] at this
    rw [this]
    simp [natI, hlst]

theorem rdy_len (T : TS) (f : Nat → Bool) : (T.rdy f).length ≤ T.parts.length := by
  unfold TS.rdy
  rw [List.length_map]
  have := List.length_filter_le f (List.range T.parts.length)
  rwa [List.length_range] at this

theorem G.parts_len (g : G) (hg : g.ok) : g.parts.length ≤ g.n := by
  have hp := g.parts_parted hg
  have h1 := hp.len
  have h2 := hp.ne
  rw [← h1]
  generalize g.parts = L at *
  clear h1 hp
  induction L with
  | nil => simp
  | cons p r ih =>
    have := ih (fun q hq => h2 q (List.mem_cons_of_mem _ hq))
    have h3 : 0 < p.length := List.length_pos_iff.2 (h2 p (by simp))
    rw [List.length_cons, List.flatten_cons, List.length_append]
    omega

theorem cntD_le (X : List (Nat × Nat)) (D : Nat → Bool) (q : Nat) : cntD X D q ≤ X.length := List.length_filter_le _ _

/-- those that none leads from, below p -/
def TS.rdyTo (T : TS) (X : List (Nat × Nat)) (p : Nat) : List Nat := ((List.range p).filter fun q => leadN X q == 0).map T.lst
theorem TS.rdyTo_succ (T : TS) (X : List (Nat × Nat)) (p : Nat) : T.rdyTo X (p + 1) = T.rdyTo X p ++ (if leadN X p = 0 then [T.lst p] else []) := by
  unfold TS.rdyTo
  rw [List.range_succ, List.filter_append, List.map_append]
  by_cases h : leadN X p = 0 <;> simp [h]
theorem TS.rdyTo_len (T : TS) (X : List (Nat × Nat)) (p : Nat) : (T.rdyTo X p).length ≤ p := by
  unfold TS.rdyTo
  rw [List.length_map]
  have := List.length_filter_le (fun q => leadN X q == 0) (List.range p)
  rwa [List.length_range] at this

theorem cross_lt {g : G} (hg : g.ok) {T : TS} (h : Parted2 g T) (a b : Nat) (hm : (a, b) ∈ T.cross (g.all g.n)) : a < T.parts.length ∧ a ≠ b := by
  obtain ⟨u, v, hE, rfl, rfl, hne⟩ := (cross_mem hg).1 hm
  exact ⟨(h.pt (hg _ hE).1).2.1, hne⟩

theorem KI.small {g : G} {T : TS} {X : List (Nat × Nat)} {D : Nat → Bool} {lead : Nat → Nat} {xs : List Nat} {l : List (List Nat)} (k : KI g T X D lead xs l) (hg : g.ok) : xs.length ≤ T.parts.length ∧ l.length ≤ g.n := by
  refine ⟨by rw [k.perm.length_eq]; exact rdy_len _ _, ?_⟩
  have h1 := congrArg List.length k.out
  have h2 := g.parts_len hg
  rw [List.length_append] at h1
  omega
theorem KM.small {g : G} {T : TS} {X : List (Nat × Nat)} {D : Nat → Bool} {p j : Nat} {lead : Nat → Nat} {xs : List Nat} {l : List (List Nat)} (k : KM g T X D p j lead xs l) (hg : g.ok) : xs.length ≤ T.parts.length ∧ l.length ≤ g.parts.length ∧ ∀ q, lead q ≤ X.length := by
  refine ⟨by rw [k.perm.length_eq]; exact rdy_len _ _, ?_, fun q => ?_⟩
  · have h1 := congrArg List.length k.out
    rw [List.length_append] at h1
    omega
  · have h1 := k.ld q
    have h2 := cntD_le X D q
    omega

theorem Hp.least {xs : List Nat} (h : Hp xs) : ∀ y ∈ xs, gd xs 0 ≤ y := fun y hy => by
  obtain ⟨i, hi, e⟩ := List.getElem_of_mem hy
  have := h.min i i (Nat.le_refl _) hi
  rw [← e]
  have e2 : gd xs i = xs[i] := by simp [gd, hi]
  rwa [e2] at this
end Go.Proofs.Ytpdidgacmikllaa.tj
