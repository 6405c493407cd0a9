/-
  Shape: the closure of Cells at a record: its loop's invariant, and what stands behind a mark.
-/
import Derived.Test.YtmahoppjefhnjaaDoorShP
import Derived.Test.YtmahoppjefhnjaaDoorShI
namespace Go.Proofs.YtmahoppjefhnjaaDoor.sh
open Go.RowKit Go.Sort Go.Proofs.YtmahoppjefhnjaaDoor.mem

/-- the table is as it was before these blocks were made -/
def TBs (w0 w : World) (F : List Nat) : Prop := TabS w0 ∧ Below w0.heap.size w0 w ∧ ∀ g ∈ F, w0.heap.size ≤ g
theorem TBs.kept {w0 w w' : World} {F : List Nat} (h : TBs w0 w F) (hb : Below w.heap.size w w') : TBs w0 w' F := ⟨h.1, h.2.1.trans (hb.mono h.2.1.size), h.2.2⟩
theorem TBs.frs {w0 w w' : World} {F : List Nat} (h : TBs w0 w F) (hf : Fr F w w') : TBs w0 w' F := ⟨h.1, h.2.1.trans (hf.below (B := w0.heap.size) h.2.2 h.2.1.size), h.2.2⟩
theorem TBs.tab {w0 w : World} {F : List Nat} (h : TBs w0 w F) : TabS w := tabS_below h.1 h.2.1
theorem TBs.other {w0 w wx : World} {F G : List Nat} (h : TBs w0 w F) (hz : w0.heap.size ≤ wx.heap.size) (hG : ∀ g ∈ G, g ∈ F ∨ wx.heap.size ≤ g) : TBs w0 w G := ⟨h.1, h.2.1, fun g hg => by
  rcases hG g hg with h1 | h1
  · exact h.2.2 g h1
  · omega⟩

/-- what stands behind the first thing that Cells' closure does -/
structure PA (w w4 w0 : World) (n q : Nat) (A : Option Addr) (cap : Nat) (ss : List St) (g1 g2 g0 gp : Nat) (M : Option Addr) (T : Ty) (v0 v1 v2 v3 : Value) (y : Pk) (M' : Option Addr) (mc' : Nat) : Prop where
  lc : LC w4 A cap ss g1 g2 g0 gp y M' mc'
  fr : Fr (g1 :: g2 :: blk M) w w4
  bl : ∀ b ∈ blk M', b ∈ blk M ∨ w.heap.size ≤ b
  arg : Arg w4 n q A ss T v0 v1 v2 v3
  box : Box w4 w.heap.size 51 #[v0, v1, v2, v3]
  tb : TBs w0 w4 (g1 :: g2 :: blk M')

/-- a mark is put: from the world in which the type's box and the mark's own block lie -/
theorem pa_mark {w w2 w3 w0 : World} {n q : Nat} {A : Option Addr} {cap : Nat} {ss : List St} {g1 g2 g0 gp : Nat} {x : Pk} {M M' : Option Addr} {mc mc' : Nat} {T : Ty} {v0 v1 v2 v3 : Value}
    (hw : LC w A cap ss g1 g2 g0 gp x M mc) (ht : TBs w0 w (g1 :: g2 :: blk M)) (hb2 : Below w.heap.size w w2) (ha : Arg w n q A ss T v0 v1 v2 v3) (hx : Box w2 w.heap.size 51 #[v0, v1, v2, v3]) (p : Int) (t : List UInt8)
    (hsg : Sg 2 w3 64 M' mc' (x.2.length + 1) (marksV x.2 ++ [.int .i64 p, .string ⟨t.toArray⟩])) (hf : Fr (blk M) w2 w3) (hb : blk M' = blk M ∨ blk M' = [w2.heap.size]) (hall : ∀ a, M' = some a → ∀ i u, w3.cell? ⟨a.block, i, none⟩ = some u → NotSl u) :
    PA w (w3.setCell ⟨g2, 0, none⟩ (.slice M' (x.2.length + 1) mc')) w0 n q A cap ss g1 g2 g0 gp M T v0 v1 v2 v3 (x.1, x.2 ++ [(p, t)]) M' mc' := by
  have h2 := hw.kept hb2
  have h4 := h2.mark p t hsg hf hb hall
  obtain ⟨hf4, hbl⟩ := cxpost_mark (A := A) (cap := cap) (ss := ss) (g0 := g0) (gp := gp) (x := x) (w := w2) (g1 := g1) (g2 := g2) (M := M) (M' := M') hf (.slice M' (x.2.length + 1) mc') hb
  have hz := hb2.size
  have hF : Fr (g1 :: g2 :: blk M) w (w3.setCell ⟨g2, 0, none⟩ (.slice M' (x.2.length + 1) mc')) := (Fr.of_below hb2 []).trans hf4 (by simp) (fun q hq => Or.inl hq)
  have hBl : ∀ b ∈ blk M', b ∈ blk M ∨ w.heap.size ≤ b := fun b hb' => by
    rcases hbl b hb' with h1 | h1
    · exact Or.inl h1
    · exact Or.inr (by omega)
  have l1 := hw.b1.lt
  have l2 := hw.b2.lt
  have hsl := hw.sg.lt
  refine ⟨h4, hF, hBl, (ha.frs hw.noSl hF), hx.kept hf4 ?_, ?_⟩
  · intro hg
    simp only [List.mem_cons] at hg
    rcases hg with h1 | h1 | h1
    · omega
    · omega
    · have := hsl _ h1
      omega
  · refine (ht.frs hF).other (wx := w) ht.2.1.size (fun g hg => ?_)
    simp only [List.mem_cons] at hg ⊢
    rcases hg with h1 | h1 | h1
    · exact Or.inl (Or.inl h1)
    · exact Or.inl (Or.inr (Or.inl h1))
    · rcases hBl g h1 with h3 | h3
      · exact Or.inl (Or.inr (Or.inr h3))
      · exact Or.inr h3

/-- between two rounds -/
structure PL (w wr w0 : World) (n : Nat) (A : Option Addr) (cap : Nat) (ss : List St) (g1 g2 g0 gp : Nat) (M : Option Addr) (f : Nat) (B : Option Addr) (L : List Ty) (j : Nat) (y : Pk) (M' : Option Addr) (mc' : Nat) (R : Pk) : Prop where
  lc : LC wr A cap ss g1 g2 g0 gp y M' mc'
  fr : Fr (g1 :: g2 :: blk M) w wr
  bl : ∀ b ∈ blk M', b ∈ blk M ∨ w.heap.size ≤ b
  at_ : SsAt wr n A ss
  ty : TysAt wr n B L
  eq : (L.drop j).foldl (fun y E => putC ss f E y) y = R
  n1 : y.1.length + 9 ^ f * (L.length - j) ≤ 1000000
  n2 : y.2.length + 9 ^ f * (L.length - j) ≤ 1000000
  tb : TBs w0 wr (g1 :: g2 :: blk M')

theorem PL.of {w w4 wr w0 : World} {n q : Nat} {A : Option Addr} {cap : Nat} {ss : List St} {g1 g2 g0 gp : Nat} {M : Option Addr} {T : Ty} {v0 v1 v2 v3 : Value} {y : Pk} {M' : Option Addr} {mc' f : Nat} {B : Option Addr} {L : List Ty} {R : Pk} (h : PA w w4 w0 n q A cap ss g1 g2 g0 gp M T v0 v1 v2 v3 y M' mc') (hb : Below w4.heap.size w4 wr) (ht : TysAt wr n B L)
    (he : L.foldl (fun y E => putC ss f E y) y = R) (h1 : y.1.length + 9 ^ f * L.length ≤ 1000000) (h2 : y.2.length + 9 ^ f * L.length ≤ 1000000) : PL w wr w0 n A cap ss g1 g2 g0 gp M f B L 0 y M' mc' R :=
  ⟨h.lc.kept hb, frs_bel h.fr hb, h.bl, h.arg.at_.kept hb, ht, he, h1, h2, h.tb.kept hb⟩

theorem PL.kept {w wr w2 w0 : World} {n : Nat} {A : Option Addr} {cap : Nat} {ss : List St} {g1 g2 g0 gp : Nat} {M : Option Addr} {f : Nat} {B : Option Addr} {L : List Ty} {j : Nat} {y : Pk} {M' : Option Addr} {mc' : Nat} {R : Pk} (h : PL w wr w0 n A cap ss g1 g2 g0 gp M f B L j y M' mc' R) (hb : Below wr.heap.size wr w2) : PL w w2 w0 n A cap ss g1 g2 g0 gp M f B L j y M' mc' R :=
  ⟨h.lc.kept hb, frs_bel h.fr hb, h.bl, h.at_.kept hb, h.ty.kept hb, h.eq, h.n1, h.n2, h.tb.kept hb⟩

/-- a round's call -/
theorem PL.next {w wr w2 w0 : World} {n : Nat} {A : Option Addr} {cap : Nat} {ss : List St} {g1 g2 g0 gp : Nat} {M : Option Addr} {f : Nat} {B : Option Addr} {L : List Ty} {j : Nat} {y : Pk} {M' M2 : Option Addr} {mc' mc2 : Nat} {R : Pk} (h : PL w wr w0 n A cap ss g1 g2 g0 gp M f B L j y M' mc' R) (hj : j < L.length) (hz : faultC ss f L[j] = 0)
    (hl : LC w2 A cap ss g1 g2 g0 gp (putC ss f L[j] y) M2 mc2) (hf : Fr (g1 :: g2 :: blk M') wr w2) (hb : ∀ b ∈ blk M2, b ∈ blk M' ∨ wr.heap.size ≤ b) : PL w w2 w0 n A cap ss g1 g2 g0 gp M f B L (j + 1) (putC ss f L[j] y) M2 mc2 R := by
  have hz1 := h.fr.size
  have hle := putC_le f L[j] hz y
  have hK : 9 ^ f * (L.length - j) = 9 ^ f * (L.length - (j + 1)) + 9 ^ f := by
    rw [show L.length - j = (L.length - (j + 1)) + 1 by omega, Nat.mul_add, Nat.mul_one]
  have n1 := h.n1
  have n2 := h.n2
  rw [hK] at n1 n2
  refine ⟨hl, h.fr.trans hf (fun g hg => Or.inl hg) (fun g hg => ?_), fun b hb' => ?_, h.at_.frs h.lc.noSl hf, h.ty.frs h.lc.noSl hf, (put_drop hj y).symm.trans h.eq, by omega, by omega, ?_⟩
  · simp only [List.mem_cons] at hg ⊢
    rcases hg with h1 | h1 | h1
    · exact Or.inl (Or.inl h1)
    · exact Or.inl (Or.inr (Or.inl h1))
    · rcases h.bl g h1 with h3 | h3
      · exact Or.inl (Or.inr (Or.inr h3))
      · exact Or.inr h3
  · rcases hb b hb' with h1 | h1
    · exact h.bl b h1
    · exact Or.inr (by omega)
  · refine (h.tb.frs hf).other (wx := wr) h.tb.2.1.size (fun g hg => ?_)
    simp only [List.mem_cons] at hg ⊢
    rcases hg with h1 | h1 | h1
    · exact Or.inl (Or.inl h1)
    · exact Or.inl (Or.inr (Or.inl h1))
    · rcases hb g h1 with h3 | h3
      · exact Or.inl (Or.inr (Or.inr h3))
      · exact Or.inr h3

theorem cxpost_loop {w wr w0 : World} {n : Nat} {A : Option Addr} {cap : Nat} {ss : List St} {g1 g2 g0 gp : Nat} {M : Option Addr} {f : Nat} {B : Option Addr} {L : List Ty} {y : Pk} {M' : Option Addr} {mc' : Nat} {R : Pk} (h : PL w wr w0 n A cap ss g1 g2 g0 gp M f B L L.length y M' mc' R) : CxPost w A cap ss g1 g2 g0 gp M R (.returned (.tuple #[])) wr := by
  have := h.eq
  rw [List.drop_length] at this
  obtain rfl : y = R := this
  exact ⟨rfl, M', mc', h.lc, h.fr, h.bl⟩

theorem two_cells1 (w : World) (o : Obj) (t : TypeId) (x y : Value) : ∀ (j : Nat) (v : Value), [x, y][j]? = some v → ((w.alloc o).alloc (.cells #[x, y] t)).cell? ((⟨w.heap.size + 1, 0, none⟩ : Addr).add j) = some v := by
  intro j v h
  have e1 : (⟨w.heap.size + 1, 0, none⟩ : Addr).add j = ⟨w.heap.size + 1, j, none⟩ := by unfold Addr.add; split <;> simp_all
  have e2 := (Box.new (w.alloc o) t #[x, y]).cell j
  rw [World.size_alloc] at e2
  rw [e1, e2]
  simpa using h

theorem two_cells0 (w : World) (t : TypeId) (x y : Value) : ∀ (j : Nat) (v : Value), [x, y][j]? = some v → (w.alloc (.cells #[x, y] t)).cell? ((⟨w.heap.size, 0, none⟩ : Addr).add j) = some v := by
  intro j v h
  have e1 : (⟨w.heap.size, 0, none⟩ : Addr).add j = ⟨w.heap.size, j, none⟩ := by unfold Addr.add; split <;> simp_all
  rw [e1, (Box.new w t #[x, y]).cell j]
  simpa using h

theorem two_one (k : Int) (s : ByteArray) : ∀ u ∈ [Value.int .i64 k, .string s], u.oneCell' = true := by
  intro u hu
  simp only [List.mem_cons, List.not_mem_nil, or_false] at hu
  rcases hu with rfl | rfl <;> rfl

theorem two_not (k : Int) (s : ByteArray) : ∀ u ∈ [Value.int .i64 k, .string s], NotSl u := by
  intro u hu
  simp only [List.mem_cons, List.not_mem_nil, or_false] at hu
  rcases hu with rfl | rfl
  · intro A n c h; cases h
  · intro A n c h; cases h

theorem info_mark : (Tryd.prog.info? 64).map (fun i => (i.zero, i.size, i.bytes)) = some (some (.agg #[.int .i64 0, .string ByteArray.empty]), 2, 24) := by kernel_rfl

theorem mark_zero : ∀ j, j < (Value.agg #[.int .i64 0, .string ByteArray.empty]).cells.size → NotSl (Value.agg #[.int .i64 0, .string ByteArray.empty]).cells[j]! := by
  intro j hj
  have e : (Value.agg #[.int .i64 0, .string ByteArray.empty]).cells = #[.int .i64 0, .string ByteArray.empty] := by rfl
  rw [e] at hj ⊢
  simp only [List.size_toArray, List.length_cons, List.length_nil] at hj
  match j, hj with
  | 0, _ => intro A n c h; cases h
  | 1, _ => intro A n c h; cases h
end Go.Proofs.YtmahoppjefhnjaaDoor.sh
