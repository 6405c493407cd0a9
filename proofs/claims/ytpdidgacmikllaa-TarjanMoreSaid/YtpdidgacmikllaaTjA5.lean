/-
  tarjan: all that some lead to, plain; and as it lies in memory.
-/
import Derived.Test.YtpdidgacmikllaaTjA4
import Derived.Test.YtpdidgacmikllaaTjR
namespace Go.Proofs.Ytpdidgacmikllaa.tj
open Go.RowKit Go.Proofs.Ytpdidgacmikllaa.mem Go.Sort Go.Proofs.Ytpdidgacmikllaa.cb

/-- all that some lead to -/
def G.leads (g : G) (n : Int) (from_ : List Int) : List Nat := (List.range g.n).filter fun j => from_.any fun m => inG n m && g.R m.toNat j

def addN (all : List Nat) (m : Nat) : List Nat := if m ∈ all then all else all ++ [m]
def addI (n : Int) (all : List Nat) (m : Int) : List Nat := if inG n m then addN all m.toNat else all

theorem addN_mem {all : List Nat} {m x : Nat} : x ∈ addN all m ↔ x ∈ all ∨ x = m := by
  unfold addN
  split
  · rename_i h
    constructor
    · exact Or.inl
    · rintro (h1 | rfl)
      · exact h1
      · exact h
  · simp
theorem addN_prefix (all : List Nat) (m : Nat) : all <+: addN all m := by
  unfold addN
  split
  · exact List.prefix_refl _
  · exact List.prefix_append _ _
theorem addI_in {n : Int} {all : List Nat} {m : Nat} (h : (m : Int) < n) : addI n all m = addN all m := by
  unfold addI
  have : inG n (m : Int) = true := by simp [inG]; omega
  rw [if_pos this, Int.toNat_natCast]

/-- what a search has come to -/
structure LI (g : G) (n : Int) (from_ : List Int) (all : List Nat) : Prop where
  nd : all.Nodup
  lt : ∀ m ∈ all, m < g.n
  fm : ∀ m ∈ all, ∃ x ∈ from_, inG n x = true ∧ g.R x.toNat m = true

theorem LI.nil (g : G) (n : Int) (from_ : List Int) : LI g n from_ [] := ⟨List.nodup_nil, fun m h => (by cases h), fun m h => (by cases h)⟩
theorem LI.add {g : G} {n : Int} {from_ : List Int} {all : List Nat} (h : LI g n from_ all) {m : Nat} (hm : m < g.n) (ht : ∃ x ∈ from_, inG n x = true ∧ g.R x.toNat m = true) : LI g n from_ (addN all m) := by
  refine ⟨?_, fun x hx => ?_, fun x hx => ?_⟩
  · unfold addN
    split
    · exact h.nd
    · rename_i hn
      rw [List.nodup_append]
      exact ⟨h.nd, by simp, fun a ha b hb e => by rw [List.mem_singleton] at hb; subst hb; subst e; exact hn ha⟩
  · rcases addN_mem.1 hx with h1 | rfl
    · exact h.lt x h1
    · exact hm
  · rcases addN_mem.1 hx with h1 | rfl
    · exact h.fm x h1
    · exact ht
theorem LI.len {g : G} {n : Int} {from_ : List Int} {all : List Nat} (h : LI g n from_ all) : all.length ≤ g.n := by
  have := nodup_len (m := List.range g.n) h.nd (fun x hx => by simpa using h.lt x hx)
  rwa [List.length_range] at this

/-- the members from which all edges were gone along -/
def closedTo (g : G) (all : List Nat) (i : Nat) : Prop := ∀ k m, k < i → all[k]? = some m → ∀ t ∈ g.out m, t ∈ all

theorem closed_mono {g : G} {all all' : List Nat} {i : Nat} (h : closedTo g all i) (hp : all <+: all') (hi : i ≤ all.length) : closedTo g all' i := by
  obtain ⟨s, rfl⟩ := hp
  intro k m hk hm t ht
  rw [List.getElem?_append_left (by omega)] at hm
  exact List.mem_append_left _ (h k m hk hm t ht)

theorem leads_perm {g : G} {n : Int} (hn : g.n = n.toNat) {from_ : List Int} {all : List Nat} (h : LI g n from_ all) (hg : g.ok) (hs : ∀ x ∈ from_, inG n x = true → x.toNat ∈ all) (hc : closedTo g all all.length) : all.Perm (g.leads n from_) := by
  refine (List.perm_ext_iff_of_nodup h.nd ((List.nodup_range).filter _)).2 fun v => ?_
  rw [List.mem_filter, List.mem_range, List.any_eq_true]
  constructor
  · intro hv
    obtain ⟨x, h1, h2, h3⟩ := h.fm v hv
    exact ⟨h.lt v hv, x, h1, by simp [h2, h3]⟩
  · rintro ⟨hv, x, h1, h2⟩
    rw [Bool.and_eq_true] at h2
    refine g.closed (X := fun k => k ∈ all) (fun a b hab ha => ?_) (hs x h1 h2.1) h2.2
    obtain ⟨k, hk, e⟩ := List.getElem_of_mem ha
    exact hc k a hk (by rw [List.getElem?_eq_getElem hk, e]) b (g.mem_out.2 hab)

theorem leads_srt (g : G) (n : Int) (from_ : List Int) : (g.leads n from_).Pairwise (· < ·) := List.Pairwise.filter _ List.pairwise_lt_range

/-- a search's memory -/
structure LV (w W : World) (g : G) (o pt ps pa sb : Nat) (A : Option Addr) (c : Nat) (all : List Nat) (seen : Nat → Bool) : Prop where
  bt : Box W pt 25 #[.slice (some ⟨o, 0, none⟩) g.n g.n]
  bs : Box W ps 48 #[.slice (some ⟨sb, 0, none⟩) g.n g.n]
  ba : Box W pa 32 #[.slice A all.length c]
  sn : Box W sb 4 (bv seen g.n)
  sq : Seg W 3 A c (natI all)
  gs : w.heap.size ≤ ps
  gt : w.heap.size ≤ pt
  gp : w.heap.size ≤ pa
  gb : w.heap.size ≤ sb
  gA : ∀ x ∈ blk A, w.heap.size ≤ x
  on : Below w.heap.size w W
  se : ∀ m, m < g.n → (seen m = true ↔ m ∈ all)

theorem LV.on' {w W W' : World} {g : G} {o pt ps pa sb : Nat} {A : Option Addr} {c : Nat} {all : List Nat} {seen : Nat → Bool} (h : LV w W g o pt ps pa sb A c all seen) (hb : Below W.heap.size W W') : LV w W' g o pt ps pa sb A c all seen :=
  ⟨h.bt.kept (Fr.of_below hb []) (by simp), h.bs.kept (Fr.of_below hb []) (by simp), h.ba.kept (Fr.of_below hb []) (by simp), h.sn.kept (Fr.of_below hb []) (by simp), h.sq.kept (Fr.of_below hb []) (by simp), h.gs, h.gt, h.gp, h.gb, h.gA, h.on.trans (hb.mono h.on.size), h.se⟩

theorem box_ne {W : World} {a b : Nat} {t u : TypeId} {cs ds : Array Value} (h : Box W a t cs) (k : Box W b u ds) (hne : t ≠ u) : a ≠ b := fun e => by
  subst e
  have := h.symm.trans k
  injection this with this
  injection this with _ h2
  exact hne h2

/-- seen -/
theorem LV.mark {w W : World} {g : G} {o pt ps pa sb : Nat} {A : Option Addr} {c : Nat} {all : List Nat} {seen : Nat → Bool} (h : LV w W g o pt ps pa sb A c all seen) (m : Nat) :
    Box (W.setCell ⟨sb, m, none⟩ (.bool true)) pt 25 #[.slice (some ⟨o, 0, none⟩) g.n g.n] ∧ Box (W.setCell ⟨sb, m, none⟩ (.bool true)) ps 48 #[.slice (some ⟨sb, 0, none⟩) g.n g.n] ∧ Box (W.setCell ⟨sb, m, none⟩ (.bool true)) pa 32 #[.slice A all.length c] ∧ Box (W.setCell ⟨sb, m, none⟩ (.bool true)) sb 4 (bv (upd seen m true) g.n) ∧ Seg (W.setCell ⟨sb, m, none⟩ (.bool true)) 3 A c (natI all) ∧ Below w.heap.size w (W.setCell ⟨sb, m, none⟩ (.bool true)) := by
  have hf : Fr [sb] W (W.setCell ⟨sb, m, none⟩ (.bool true)) := (Fr.refl _ _).setCell (Or.inl (by simp)) _
  refine ⟨h.bt.kept hf (by simpa using box_ne h.bt h.sn (by decide)), h.bs.kept hf (by simpa using box_ne h.bs h.sn (by decide)), h.ba.kept hf (by simpa using box_ne h.ba h.sn (by decide)), ?_, h.sq.kept hf (fun x hx e => by rw [List.mem_singleton] at e; subst e; exact h.sq.ne_box h.sn (by decide) hx), h.on.setCell (p := ⟨sb, m, none⟩) h.gb _⟩
  have := h.sn.put m (.bool true)
  rwa [bv_set] at this

/-- come to -/
theorem lv_put {w W W1 : World} {g : G} {o pt ps pa sb : Nat} {A : Option Addr} {c : Nat} {all : List Nat} {seen : Nat → Bool} {m : Nat} (h : LV w W g o pt ps pa sb A c all seen) (hm : m ∉ all) {A' : Option Addr} {c' k : Nat} (hk : k = all.length + 1) (hs : Seg W1 3 A' c' (natI all ++ [.int .i64 (m : Nat)])) (f : Fr (blk A) (W.setCell ⟨sb, m, none⟩ (.bool true)) W1) (b : ∀ x ∈ blk A', x ∈ blk A ∨ W.heap.size ≤ x) :
    LV w (W1.setCell ⟨pa, 0, none⟩ (.slice A' k c')) g o pt ps pa sb A' c' (addN all m) (upd seen m true) := by
  subst hk
  obtain ⟨q1, q2, q3, q4, q5, q6⟩ := h.mark m
  have hs1 : (W.setCell ⟨sb, m, none⟩ (.bool true)).heap.size = W.heap.size := by simp [World.setCell]
  have n1 := q5.ne_box q1 (by decide)
  have n2 := q5.ne_box q2 (by decide)
  have n3 := q5.ne_box q3 (by decide)
  have n4 := q5.ne_box q4 (by decide)
  have r1 := q1.kept f n1
  have r2 := q2.kept f n2
  have r3 := q3.kept f n3
  have r4 := q4.kept f n4
  have hon1 : Below w.heap.size w W1 := q6.trans (f.below h.gA q6.size)
  have hf2 : Fr [pa] W1 (W1.setCell ⟨pa, 0, none⟩ (.slice A' (all.length + 1) c')) := (Fr.refl _ _).setCell (Or.inl (by simp)) _
  have e : addN all m = all ++ [m] := by unfold addN; rw [if_neg hm]
  rw [e]
  refine ⟨r1.kept hf2 (by simpa using box_ne r1 r3 (by decide)), r2.kept hf2 (by simpa using box_ne r2 r3 (by decide)), ?_, r4.kept hf2 (by simpa using box_ne r4 r3 (by decide)), ?_, h.gs, h.gt, h.gp, h.gb, fun x hx => ?_, hon1.setCell (p := ⟨pa, 0, none⟩) h.gp _, fun q hq => ?_⟩
  · have := r3.put 0 (.slice A' (all.length + 1) c')
    rw [List.length_append, List.length_singleton]
    exact this
  · rw [← natI_snoc]
    exact hs.kept hf2 (fun x hx e => by rw [List.mem_singleton] at e; subst e; exact hs.ne_box r3 (by decide) hx)
  · rcases b x hx with e | e
    · exact h.gA x e
    · have := h.on.size; omega
  · by_cases e : q = m
    · subst e; rw [upd_same]; simp
    · rw [upd_ne _ _ e, h.se q hq]; simp [e]

theorem sort_seg (w : World) (A : Option Addr) (cap : Nat) (L M : List Nat) (h : Seg w 3 A cap (natI L)) (hbig : L.length ≤ 1000) (hp : L.Perm M) (hs : M.Pairwise (· < ·)) :
    Calls Try.prog 29 #[.slice A L.length cap] w fun e w' => e = .returned (.tuple #[]) ∧ Fr (blk A) w w' ∧ Rd w' A (natI M) := by
  rcases Nat.eq_zero_or_pos L.length with h0 | h0
  · obtain rfl : L = [] := List.eq_nil_of_length_eq_zero h0
    obtain rfl : M = [] := List.eq_nil_of_length_eq_zero (by rw [← hp.length_eq]; rfl)
    refine (Try.slices_Sort_int_none A cap w).mono ?_
    rintro e w' ⟨rfl, rfl⟩
    exact ⟨rfl, Fr.refl _ _, fun hz => by simp [natI] at hz⟩
  · obtain ⟨g, off, rfl, hlt, hc⟩ := rd_cells h.rd h0
    have hH : Go.Sort.Holds (Value.int .i64) w g off (zs L).toArray := by
      intro j hj
      simp only [List.size_toArray, zs_len] at hj
      refine ⟨?_, h.free _⟩
      rw [hc j hj]
      simp [zs, hj]
    have K := Try.slices_Sort_int g off cap (zs L) w hH hlt (by rw [zs_len]; omega)
    rw [zs_len, merge_nat hp hs] at K
    refine K.mono ?_
    rintro e w' ⟨rfl, n, os, rfl⟩
    refine ⟨rfl, put_fr eI _ _ _ _ _ _, fun hz => ⟨g, off, rfl, ?_, fun j hj => ?_⟩⟩
    · simp [Go.Sort.grow]; omega
    · rw [natI_len] at hj
      have hsz : (zs M).toArray.size = (zs L).toArray.size := by simp [zs_len, hp.length_eq]
      have hh := Go.Sort.holds_putRow (Value.int .i64) (Go.Sort.ahead w n) g off _ (zs M).toArray (fun j hj => hH j hj) hsz j (by simpa [zs_len] using hj)
      rw [Go.Sort.cell?_grow _ _ _ (by simpa using hlt), hh.1]
      simp [zs, natI, hj]
end Go.Proofs.Ytpdidgacmikllaa.tj
