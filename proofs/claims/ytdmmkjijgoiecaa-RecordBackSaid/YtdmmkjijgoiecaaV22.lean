import Derived.Test.YtdmmkjijgoiecaaV21
import Derived.Test.YtdmmkjijgoiecaaV01
import Derived.Test.YtdmmkjijgoiecaaUNmE
import Derived.Maps.OwnSet
import Derived.Maps.OwnOps
import Derived.DeepKeys4
import Derived.OpenShut
import Derived.Deep.Slices
import Derived.SizedLaws
/-
  system: systems of constraints, in memory: what can be read.
-/
set_option linter.all false
namespace Go.Proofs.Ytdmmkjijgoiecaa.sy
open Go.RowKit Go.Proofs.Ytdmmkjijgoiecaa.mem

/-- rows of some cells each, one behind another -/
def Tbl (w : World) (A : Option Addr) (sz : Nat) (rows : List (List Value)) : Prop := 0 < rows.length → ∃ b off, A = some ⟨b, off, none⟩ ∧ b < w.heap.size ∧ ∀ (j : Nat) (hj : j < rows.length) (i : Nat) (v : Value), rows[j][i]? = some v → w.cell? ⟨b, off + j * sz + i, none⟩ = some v

theorem Tbl.below {w w' : World} {A : Option Addr} {sz : Nat} {rows : List (List Value)} (h : Tbl w A sz rows) (hb : Below w.heap.size w w') : Tbl w' A sz rows := fun hz => by
  obtain ⟨b, off, e, hl, hc⟩ := h hz
  exact ⟨b, off, e, Nat.lt_of_lt_of_le hl hb.size, fun j hj i v hv => (hb.cell (p := ⟨b, off + j * sz + i, none⟩) hl).trans (hc j hj i v hv)⟩

def mkRow (m : Mk) : List Value := [.int .i64 m.at_, .string m.tag]
def fnRow (f : SF) : List Value := [.string f.name, .string f.kinds, .string f.ret]
structure MO where
  o : SO
  mA : Option Addr
  mc : Nat
def MO.row (x : MO) : List Value := [.string x.o.name, .string x.o.kinds, .slice x.mA x.o.marks.length x.mc]
structure MC where
  c : SC
  aA : Option Addr
  ac : Nat
def MC.row (x : MC) : List Value := [.int .i64 x.c.op, .string x.c.a, .string x.c.b, .int .i64 x.c.k, .string x.c.tag, .slice x.aA x.c.args.length x.ac]

/-- what an object is made of lies below, and is no text beyond all length -/
structure MOk (w : World) (x : MO) : Prop where
  n : x.o.name.size ≤ maxLen
  k : x.o.kinds.size ≤ maxLen
  m : Tbl w x.mA 2 (x.o.marks.map mkRow)
  ml : x.o.marks.length ≤ maxLen
  mt : ∀ m ∈ x.o.marks, m.tag.size ≤ maxLen
  mw : ∀ m ∈ x.o.marks, (Lit.int .i64 m.at_).wf = true
  mcp : x.o.marks.length ≤ x.mc
structure FOk (f : SF) : Prop where
  n : f.name.size ≤ maxLen
  k : f.kinds.size ≤ maxLen
  r : f.ret.size ≤ maxLen
structure COk (w : World) (x : MC) : Prop where
  a : x.c.a.size ≤ maxLen
  b : x.c.b.size ≤ maxLen
  t : x.c.tag.size ≤ maxLen
  g : Rd w x.aA (x.c.args.map Value.string)
  gl : x.c.args.length ≤ maxLen
  gc : x.c.args.length ≤ x.ac
  gs : ∀ s ∈ x.c.args, s.size ≤ maxLen

theorem MOk.below {w w' : World} {x : MO} (h : MOk w x) (hb : Below w.heap.size w w') : MOk w' x := ⟨h.n, h.k, h.m.below hb, h.ml, h.mt, h.mw, h.mcp⟩
theorem COk.below {w w' : World} {x : MC} (h : COk w x) (hb : Below w.heap.size w w') : COk w' x := ⟨h.a, h.b, h.t, h.g.below hb, h.gl, h.gc, h.gs⟩

/-- a system as it lies -/
structure MS where
  oA : Option Addr
  oc : Nat
  os : List MO
  fA : Option Addr
  fc : Nat
  fs : List SF
  cA : Option Addr
  cc : Nat
  cs : List MC
def MS.sys (s : MS) : SS := ⟨s.os.map (·.o), s.fs, s.cs.map (·.c)⟩
def MS.val (s : MS) : Value := .agg #[.slice s.oA s.os.length s.oc, .slice s.fA s.fs.length s.fc, .slice s.cA s.cs.length s.cc]

structure SysM (w : World) (s : MS) : Prop where
  o : Tbl w s.oA 3 (s.os.map MO.row)
  f : Tbl w s.fA 3 (s.fs.map fnRow)
  c : Tbl w s.cA 6 (s.cs.map MC.row)
  ok : ∀ x ∈ s.os, MOk w x
  fk : ∀ x ∈ s.fs, FOk x
  ck : ∀ x ∈ s.cs, COk w x
  ol : s.os.length ≤ maxLen
  fl : s.fs.length ≤ maxLen
  cl : s.cs.length ≤ maxLen

theorem SysM.below {w w' : World} {s : MS} (h : SysM w s) (hb : Below w.heap.size w w') : SysM w' s :=
  ⟨h.o.below hb, h.f.below hb, h.c.below hb, fun x hx => (h.ok x hx).below hb, h.fk, fun x hx => (h.ck x hx).below hb, h.ol, h.fl, h.cl⟩

/-- an object's cells -/
theorem tbl_obj {w : World} {A : Option Addr} {os : List MO} (h : Tbl w A 3 (os.map MO.row)) {j : Nat} (hj : j < os.length) : ∃ b off, A = some ⟨b, off, none⟩ ∧ b < w.heap.size ∧ w.cell? ⟨b, off + j * 3, none⟩ = some (.string os[j].o.name) ∧ w.cell? ⟨b, off + j * 3 + 1, none⟩ = some (.string os[j].o.kinds) ∧ w.cell? ⟨b, off + j * 3 + 2, none⟩ = some (.slice os[j].mA os[j].o.marks.length os[j].mc) := by
  obtain ⟨b, off, e, hl, hc⟩ := h (by rw [List.length_map]; omega)
  have hr : ∀ i v, os[j].row[i]? = some v → w.cell? ⟨b, off + j * 3 + i, none⟩ = some v := fun i v hv => hc j (by rw [List.length_map]; exact hj) i v (by rw [List.getElem_map]; exact hv)
  exact ⟨b, off, e, hl, hr 0 _ rfl, hr 1 _ rfl, hr 2 _ rfl⟩
theorem tbl_fn {w : World} {A : Option Addr} {fs : List SF} (h : Tbl w A 3 (fs.map fnRow)) {j : Nat} (hj : j < fs.length) : ∃ b off, A = some ⟨b, off, none⟩ ∧ b < w.heap.size ∧ w.cell? ⟨b, off + j * 3, none⟩ = some (.string fs[j].name) ∧ w.cell? ⟨b, off + j * 3 + 1, none⟩ = some (.string fs[j].kinds) ∧ w.cell? ⟨b, off + j * 3 + 2, none⟩ = some (.string fs[j].ret) := by
  obtain ⟨b, off, e, hl, hc⟩ := h (by rw [List.length_map]; omega)
  have hr : ∀ i v, (fnRow fs[j])[i]? = some v → w.cell? ⟨b, off + j * 3 + i, none⟩ = some v := fun i v hv => hc j (by rw [List.length_map]; exact hj) i v (by rw [List.getElem_map]; exact hv)
  exact ⟨b, off, e, hl, hr 0 _ rfl, hr 1 _ rfl, hr 2 _ rfl⟩
theorem tbl_mk {w : World} {A : Option Addr} {ms : List Mk} (h : Tbl w A 2 (ms.map mkRow)) {j : Nat} (hj : j < ms.length) : ∃ b off, A = some ⟨b, off, none⟩ ∧ b < w.heap.size ∧ w.cell? ⟨b, off + j * 2, none⟩ = some (.int .i64 ms[j].at_) ∧ w.cell? ⟨b, off + j * 2 + 1, none⟩ = some (.string ms[j].tag) := by
  obtain ⟨b, off, e, hl, hc⟩ := h (by rw [List.length_map]; omega)
  have hr : ∀ i v, (mkRow ms[j])[i]? = some v → w.cell? ⟨b, off + j * 2 + i, none⟩ = some v := fun i v hv => hc j (by rw [List.length_map]; exact hj) i v (by rw [List.getElem_map]; exact hv)
  exact ⟨b, off, e, hl, hr 0 _ rfl, hr 1 _ rfl⟩
theorem tbl_con {w : World} {A : Option Addr} {cs : List MC} (h : Tbl w A 6 (cs.map MC.row)) {j : Nat} (hj : j < cs.length) : ∃ b off, A = some ⟨b, off, none⟩ ∧ b < w.heap.size ∧ w.cell? ⟨b, off + j * 6, none⟩ = some (.int .i64 cs[j].c.op) ∧ w.cell? ⟨b, off + j * 6 + 1, none⟩ = some (.string cs[j].c.a) ∧ w.cell? ⟨b, off + j * 6 + 2, none⟩ = some (.string cs[j].c.b) ∧ w.cell? ⟨b, off + j * 6 + 3, none⟩ = some (.int .i64 cs[j].c.k) ∧ w.cell? ⟨b, off + j * 6 + 4, none⟩ = some (.string cs[j].c.tag) ∧ w.cell? ⟨b, off + j * 6 + 5, none⟩ = some (.slice cs[j].aA cs[j].c.args.length cs[j].ac) := by
  obtain ⟨b, off, e, hl, hc⟩ := h (by rw [List.length_map]; omega)
  have hr : ∀ i v, cs[j].row[i]? = some v → w.cell? ⟨b, off + j * 6 + i, none⟩ = some v := fun i v hv => hc j (by rw [List.length_map]; exact hj) i v (by rw [List.getElem_map]; exact hv)
  exact ⟨b, off, e, hl, hr 0 _ rfl, hr 1 _ rfl, hr 2 _ rfl, hr 3 _ rfl, hr 4 _ rfl, hr 5 _ rfl⟩
end Go.Proofs.Ytdmmkjijgoiecaa.sy

/-
  system: which texts are nodes and places: the walks, the reference's and the program's.
-/
set_option linter.all false
namespace Go.Proofs.Ytdmmkjijgoiecaa.sy
open Go.RowKit Go.Proofs.Ytdmmkjijgoiecaa.mem Go.Proofs.Ytdmmkjijgoiecaa.nm

def BPost (b : Bool) (w : World) (e : Ending) (w' : World) : Prop := e = .returned (.bool b) ∧ Below w.heap.size w w'
end Go.Proofs.Ytdmmkjijgoiecaa.sy

/-
  system: which texts are nodes, places, objects, functions, sites: the program's.
-/
set_option linter.all false
namespace Go.Proofs.Ytdmmkjijgoiecaa.sy
open Go.RowKit Go.Proofs.Ytdmmkjijgoiecaa.mem Go.Proofs.Ytdmmkjijgoiecaa.nm

end Go.Proofs.Ytdmmkjijgoiecaa.sy

/-
  system: kinds: the reference's.
-/
set_option linter.all false
namespace Go.Proofs.Ytdmmkjijgoiecaa.sy
open Go.RowKit Go.Proofs.Ytdmmkjijgoiecaa.mem

end Go.Proofs.Ytdmmkjijgoiecaa.sy

/-
  system: marks as keys of a map; marks in order, plain.
-/
set_option linter.all false
namespace Go.Proofs.Ytdmmkjijgoiecaa.sy
open Go.RowKit Go.Proofs.Ytdmmkjijgoiecaa.mem

def mkV (m : Mk) : Value := .agg #[.int .i64 m.at_, .string m.tag]

end Go.Proofs.Ytdmmkjijgoiecaa.sy

/-
  Arguments: slices whose elements have several cells each, nested; with what the row says of their weights.
-/
set_option linter.all false
namespace Go.Proofs.Ytdmmkjijgoiecaa.sy
open Go.RowKit Go.ChangeShapes Go.WideShapes Go.Proofs.Ytdmmkjijgoiecaa.mem

theorem block_of_cell {w : World} {a : Addr} {v : Value} (h : w.cell? a = some v) : a.block < w.heap.size := by
  unfold World.cell? at h
  rcases Nat.lt_or_ge a.block w.heap.size with h1 | h1
  · exact h1
  · rw [Array.getElem?_eq_none h1] at h; cases h

theorem mem_all {H : Type} {P : Program} {e : TypeId} : ∀ {l : List (DataW H)} {d : DataW H}, d ∈ l → ∀ n ∈ d.weights P e, n ∈ DataW.weightsAll P e l
  | [], d, h, _, _ => by simp at h
  | x :: l, d, h, n, hn => by
    simp only [DataW.weightsAll, List.mem_append]
    rcases List.mem_cons.1 h with rfl | h
    · exact Or.inl hn
    · exact Or.inr (mem_all h n hn)

theorem wide_of {P : Program} {t e : TypeId} {H : Type} {enc : TypeId × Value → H} {W : World} {fuel : Nat} {u : Value} {x : DataW H × List MemPlace} {α : Type} [Inhabited α] {B sz : Nat} (row : α → List Value) (Q : α → Prop)
    (ht : P.underlying t = some (.slice e)) (hc : P.cellsOf e = sz) (hz : 0 < sz) (hr : ∀ x, (row x).length = sz)
    (hf : ∀ (n : Nat) (cs : List Value) (y : DataW H × List MemPlace), DataW.trod enc P W 0 (fun _ => true) true n e cs = some y → cs.length = sz → (∀ m ∈ y.1.weights P e, m ≤ B) → ∃ x, cs = row x ∧ Q x)
    (h : DataW.trod enc P W 0 (fun _ => true) true fuel t [u] = some x) (hw : ∀ m ∈ x.1.weights P t, m ≤ B) :
    ∃ (A : Option Addr) (cap : Nat) (xs : List α), u = .slice A xs.length cap ∧ Tbl W A sz (xs.map row) ∧ (∀ x ∈ xs, Q x) ∧ xs.length ≤ cap ∧ cap ≤ maxLen ∧ xs.length * P.bytesOf e ≤ B := by
  rcases Go.Deep.open_slice ht h with ⟨hcs, _⟩ | ⟨a, l, c, m, n, D, Pl, hcs, _, hl, hm, hmm, hxd, hx⟩
  · simp only [List.cons.injEq, and_true] at hcs
    subst hcs
    exact ⟨none, 0, [], rfl, fun h => by simp at h, by simp, Nat.le_refl _, Nat.zero_le _, by simp⟩
  · simp only [List.cons.injEq, and_true] at hcs
    subst hcs
    simp only [if_true] at hmm
    subst hmm
    have hd : x.1 = .slice ((List.range l).map D) ((List.range (m - l)).map fun j => D (l + j)) := congrArg Prod.fst hxd
    rw [hd] at hw
    simp only [DataW.weights, ht, List.mem_cons, List.mem_append, List.length_map, List.length_range] at hw
    have hwd : ∀ i, i < m → ∀ q ∈ (D i).weights P e, q ≤ B := fun i hi q hq => by
      rcases Nat.lt_or_ge i l with h1 | h1
      · exact hw q (Or.inr (Or.inl (mem_all (List.mem_map.2 ⟨i, List.mem_range.2 h1, rfl⟩) q hq)))
      · exact hw q (Or.inr (Or.inr (mem_all (List.mem_map.2 ⟨i - l, List.mem_range.2 (by omega), by rw [show l + (i - l) = i by omega]⟩) q hq)))
    have hb := hw _ (Or.inl rfl)
    rw [show l + (m - l) = m by omega] at hb
    rw [hc] at hx
    obtain ⟨X, hX⟩ := Go.Deep.choose_lt (α := α) (p := fun i x => (∀ (j : Nat) (v : Value), (row x)[j]? = some v → W.cell? (a.add (i * sz + j)) = some v) ∧ Q x) (n := m) (fun i hi => by
      obtain ⟨cs', h1, h2⟩ := hx i hi
      obtain ⟨_, hcl, hat⟩ := World.cells?_some h1
      obtain ⟨x, rfl, hq⟩ := hf n _ _ h2 hcl (hwd i hi)
      refine ⟨x, fun j v hv => ?_, hq⟩
      have hj : j < sz := by rw [← hcl]; exact (List.getElem?_eq_some_iff.1 hv).1
      have h0 := hat j hj
      rw [Go.Deep.add_add] at h0
      rw [h0, ← hv])
    refine ⟨some a, m, (List.range l).map X, by simp, fun hzz => ?_, fun x hx' => ?_, by simpa using hl, hm, ?_⟩
    · simp only [List.length_map, List.length_range] at hzz
      obtain ⟨v0, hv0⟩ : ∃ v, (row (X 0))[0]? = some v := ⟨_, List.getElem?_eq_getElem (by rw [hr]; exact hz)⟩
      have h0 := (hX 0 (by omega)).1 0 v0 hv0
      obtain ⟨b, off, spot⟩ := a
      have hs : spot = none := by simpa [Addr.add] using World.cell?_spot h0
      subst hs
      refine ⟨b, off, rfl, by have := block_of_cell h0; simpa [Addr.add] using this, fun j hj i v hv => ?_⟩
      simp only [List.length_map, List.length_range] at hj
      have hv2 : (row (X j))[i]? = some v := by simpa using hv
      have := (hX j (by omega)).1 i v hv2
      rwa [Go.WideShapes.add_plain, ← Nat.add_assoc] at this
    · obtain ⟨i, hi, rfl⟩ := List.mem_map.1 hx'
      exact (hX i (by have := List.mem_range.1 hi; omega)).2
    · simp only [List.length_map, List.length_range]
      exact Nat.le_trans (Nat.mul_le_mul_right _ hl) hb

/-- a struct's field -/
theorem fld {P : Program} {e : TypeId} {H : Type} {enc : TypeId × Value → H} {W : World} {tys : List (TypeId × Nat)} (hq : (P.fieldsOf e).toList.map (fun f => (f.type, f.offset)) = tys) {ys : List (DataW H × List MemPlace)} {n : Nat} {cs : List Value} (hl : ys.length = (P.fieldsOf e).size)
    (hf : ∀ (i : Nat) (f : Field), (P.fieldsOf e)[i]? = some f → DataW.trod enc P W 0 (fun _ => true) true n f.type ((cs.drop f.offset).take (P.cellsOf f.type)) = ys[i]?) (hu : P.underlying e = some (.struct (P.fieldsOf e))) {B : Nat} (hw : ∀ m ∈ (DataW.agg (ys.map (·.1))).weights P e, m ≤ B)
    (i : Nat) (t : TypeId) (o : Nat) (hi : tys[i]? = some (t, o)) : ∃ y, DataW.trod enc P W 0 (fun _ => true) true n t ((cs.drop o).take (P.cellsOf t)) = some y ∧ ∀ m ∈ y.1.weights P t, m ≤ B := by
  rw [← hq, List.getElem?_map] at hi
  obtain ⟨f, h1, h2⟩ := Option.map_eq_some_iff.1 hi
  rw [Array.getElem?_toList] at h1
  simp only [Prod.mk.injEq] at h2
  have hlt : i < ys.length := by rw [hl]; exact (Array.getElem?_eq_some_iff.1 h1).1
  have h3 := hf i f h1
  rw [h2.1, h2.2, List.getElem?_eq_getElem hlt] at h3
  refine ⟨ys[i], h3, fun m hm => hw m ?_⟩
  simp only [DataW.weights, hu]
  exact DataW.weights_mem_each (j := i) (t := t) (d := ys[i].1) (by rw [List.getElem?_map, Array.getElem?_toList, h1]; simp [h2.1]) (by rw [List.getElem?_map, List.getElem?_eq_getElem hlt]; rfl) m hm
end Go.Proofs.Ytdmmkjijgoiecaa.sy

/-
  system: a system as it comes in.
-/
set_option linter.all false
namespace Go.Proofs.Ytdmmkjijgoiecaa.sy
open Go.RowKit Go.ChangeShapes Go.WideShapes Go.Proofs.Ytdmmkjijgoiecaa.mem

theorem cStr : Try.prog.cellsOf 9 = 1 := by kernel_rfl
theorem cInt : Try.prog.cellsOf 3 = 1 := by kernel_rfl
theorem cMk : Try.prog.cellsOf 98 = 2 := by kernel_rfl
theorem cOb : Try.prog.cellsOf 76 = 3 := by kernel_rfl
theorem cFn : Try.prog.cellsOf 80 = 3 := by kernel_rfl
theorem cCo : Try.prog.cellsOf 84 = 6 := by kernel_rfl
theorem cMs : Try.prog.cellsOf 74 = 1 := by kernel_rfl
theorem cSs : Try.prog.cellsOf 22 = 1 := by kernel_rfl
theorem cOs : Try.prog.cellsOf 23 = 1 := by kernel_rfl
theorem cFs : Try.prog.cellsOf 24 = 1 := by kernel_rfl
theorem cCs : Try.prog.cellsOf 25 = 1 := by kernel_rfl
theorem cSy : Try.prog.cellsOf 27 = 3 := by kernel_rfl
theorem bStr : Try.prog.bytesOf 9 = 16 := by kernel_rfl
theorem uMk : Try.prog.underlying 98 = some (.struct (Try.prog.fieldsOf 98)) := by kernel_rfl
theorem uOb : Try.prog.underlying 76 = some (.struct (Try.prog.fieldsOf 76)) := by kernel_rfl
theorem uFn : Try.prog.underlying 80 = some (.struct (Try.prog.fieldsOf 80)) := by kernel_rfl
theorem uCo : Try.prog.underlying 84 = some (.struct (Try.prog.fieldsOf 84)) := by kernel_rfl
theorem uSy : Try.prog.underlying 27 = some (.struct (Try.prog.fieldsOf 27)) := by kernel_rfl
theorem fMk : (Try.prog.fieldsOf 98).toList.map (fun f => (f.type, f.offset)) = [(3, 0), (9, 1)] := by kernel_rfl
theorem fOb : (Try.prog.fieldsOf 76).toList.map (fun f => (f.type, f.offset)) = [(9, 0), (9, 1), (74, 2)] := by kernel_rfl
theorem fFn : (Try.prog.fieldsOf 80).toList.map (fun f => (f.type, f.offset)) = [(9, 0), (9, 1), (9, 2)] := by kernel_rfl
theorem fCo : (Try.prog.fieldsOf 84).toList.map (fun f => (f.type, f.offset)) = [(3, 0), (9, 1), (9, 2), (3, 3), (9, 4), (22, 5)] := by kernel_rfl
theorem fSy : (Try.prog.fieldsOf 27).toList.map (fun f => (f.type, f.offset)) = [(23, 0), (24, 1), (25, 2)] := by kernel_rfl

section
variable {H : Type} {enc : TypeId × Value → H} {W : World} {B : Nat}

theorem str_el {n : Nat} {u : Value} {y : DataW H × List MemPlace} (h : DataW.trod enc Try.prog W 0 (fun _ => true) true n 9 [u] = some y) : ∃ a : ByteArray, u = .string a ∧ a.size ≤ maxLen := by
  obtain ⟨a, e, _, hs⟩ := DataW.trod_string Try.underlying9 h
  simp only [List.cons.injEq, and_true] at e
  exact ⟨a, e, hs⟩
theorem int_el {n : Nat} {u : Value} {y : DataW H × List MemPlace} (h : DataW.trod enc Try.prog W 0 (fun _ => true) true n 3 [u] = some y) : ∃ a : Int, u = .int .i64 a ∧ (Lit.int .i64 a).wf = true := by
  obtain ⟨a, e, _, hs⟩ := DataW.trod_int Try.underlying3 h
  simp only [List.cons.injEq, and_true] at e
  exact ⟨a, e, hs⟩

theorem mk_el (n : Nat) (cs : List Value) (y : DataW H × List MemPlace) (h : DataW.trod enc Try.prog W 0 (fun _ => true) true n 98 cs = some y) (hl : cs.length = 2) (hw : ∀ m ∈ y.1.weights Try.prog 98, m ≤ B) :
    ∃ x : Mk, cs = mkRow x ∧ (x.tag.size ≤ maxLen ∧ (Lit.int .i64 x.at_).wf = true) := by
  match cs, hl with
  | [c0, c1], _ =>
    obtain ⟨ys, m, _, hx, _, hl2, hf⟩ := DataW.trod_struct uMk h
    rw [hx] at hw
    obtain ⟨y0, h0, w0⟩ := fld fMk hl2 hf uMk hw 0 3 0 rfl
    obtain ⟨y1, h1, w1⟩ := fld fMk hl2 hf uMk hw 1 9 1 rfl
    rw [cInt] at h0
    rw [cStr] at h1
    obtain ⟨a0, rfl, s0⟩ := int_el (u := c0) h0
    obtain ⟨a1, rfl, s1⟩ := str_el (u := c1) h1
    exact ⟨⟨a0, a1⟩, rfl, s1, s0⟩

theorem obj_el (n : Nat) (cs : List Value) (y : DataW H × List MemPlace) (h : DataW.trod enc Try.prog W 0 (fun _ => true) true n 76 cs = some y) (hl : cs.length = 3) (hw : ∀ m ∈ y.1.weights Try.prog 76, m ≤ B) :
    ∃ x : MO, cs = x.row ∧ MOk W x := by
  match cs, hl with
  | [c0, c1, c2], _ =>
    obtain ⟨ys, m, _, hx, _, hl2, hf⟩ := DataW.trod_struct uOb h
    rw [hx] at hw
    obtain ⟨y0, h0, w0⟩ := fld fOb hl2 hf uOb hw 0 9 0 rfl
    obtain ⟨y1, h1, w1⟩ := fld fOb hl2 hf uOb hw 1 9 1 rfl
    obtain ⟨y2, h2, w2⟩ := fld fOb hl2 hf uOb hw 2 74 2 rfl
    rw [cStr] at h0 h1
    rw [cMs] at h2
    obtain ⟨a0, rfl, s0⟩ := str_el (u := c0) h0
    obtain ⟨a1, rfl, s1⟩ := str_el (u := c1) h1
    have : Inhabited Mk := ⟨⟨0, ⟨#[]⟩⟩⟩
    obtain ⟨A, cap, ms, rfl, ht, hq, hle, hmax, _⟩ := wide_of (u := c2) (B := B) mkRow _ Try.underlying74 cMk (by decide) (fun _ => rfl) (fun n cs y => mk_el n cs y) h2 w2
    exact ⟨⟨⟨a0, a1, ms⟩, A, cap⟩, rfl, ⟨s0, s1, ht, Nat.le_trans hle hmax, fun x hx => (hq x hx).1, fun x hx => (hq x hx).2, hle⟩⟩

theorem fn_el (n : Nat) (cs : List Value) (y : DataW H × List MemPlace) (h : DataW.trod enc Try.prog W 0 (fun _ => true) true n 80 cs = some y) (hl : cs.length = 3) (hw : ∀ m ∈ y.1.weights Try.prog 80, m ≤ B) :
    ∃ x : SF, cs = fnRow x ∧ FOk x := by
  match cs, hl with
  | [c0, c1, c2], _ =>
    obtain ⟨ys, m, _, hx, _, hl2, hf⟩ := DataW.trod_struct uFn h
    rw [hx] at hw
    obtain ⟨y0, h0, w0⟩ := fld fFn hl2 hf uFn hw 0 9 0 rfl
    obtain ⟨y1, h1, w1⟩ := fld fFn hl2 hf uFn hw 1 9 1 rfl
    obtain ⟨y2, h2, w2⟩ := fld fFn hl2 hf uFn hw 2 9 2 rfl
    rw [cStr] at h0 h1 h2
    obtain ⟨a0, rfl, s0⟩ := str_el (u := c0) h0
    obtain ⟨a1, rfl, s1⟩ := str_el (u := c1) h1
    obtain ⟨a2, rfl, s2⟩ := str_el (u := c2) h2
    exact ⟨⟨a0, a1, a2⟩, rfl, ⟨s0, s1, s2⟩⟩

theorem txt_el (n : Nat) (cs : List Value) (y : DataW H × List MemPlace) (h : DataW.trod enc Try.prog W 0 (fun _ => true) true n 9 cs = some y) (hl : cs.length = 1) (hw : ∀ m ∈ y.1.weights Try.prog 9, m ≤ B) :
    ∃ x : ByteArray, cs = [.string x] ∧ x.size ≤ maxLen := by
  match cs, hl with
  | [c0], _ =>
    obtain ⟨a0, rfl, s0⟩ := str_el (u := c0) h
    exact ⟨a0, rfl, s0⟩

theorem tbl_rd {w : World} {A : Option Addr} {l : List ByteArray} (h : Tbl w A 1 (l.map fun s => [Value.string s])) : Rd w A (l.map Value.string) := fun hz => by
  rw [List.length_map] at hz
  obtain ⟨b, off, e, hl, hc⟩ := h (by simpa using hz)
  refine ⟨b, off, e, hl, fun j hj => ?_⟩
  rw [List.length_map] at hj
  have := hc j (by simpa using hj) 0 (.string l[j]) (by simp)
  rw [Nat.mul_one, Nat.add_zero] at this
  rw [this, List.getElem_map]

/-- a constraint, and how many Args it may have -/
def CQ (W : World) (B : Nat) (x : MC) : Prop := COk W x ∧ x.c.args.length * 16 ≤ B
theorem con_el (n : Nat) (cs : List Value) (y : DataW H × List MemPlace) (h : DataW.trod enc Try.prog W 0 (fun _ => true) true n 84 cs = some y) (hl : cs.length = 6) (hw : ∀ m ∈ y.1.weights Try.prog 84, m ≤ B) :
    ∃ x : MC, cs = x.row ∧ CQ W B x := by
  match cs, hl with
  | [c0, c1, c2, c3, c4, c5], _ =>
    obtain ⟨ys, m, _, hx, _, hl2, hf⟩ := DataW.trod_struct uCo h
    rw [hx] at hw
    obtain ⟨y0, h0, w0⟩ := fld fCo hl2 hf uCo hw 0 3 0 rfl
    obtain ⟨y1, h1, w1⟩ := fld fCo hl2 hf uCo hw 1 9 1 rfl
    obtain ⟨y2, h2, w2⟩ := fld fCo hl2 hf uCo hw 2 9 2 rfl
    obtain ⟨y3, h3, w3⟩ := fld fCo hl2 hf uCo hw 3 3 3 rfl
    obtain ⟨y4, h4, w4⟩ := fld fCo hl2 hf uCo hw 4 9 4 rfl
    obtain ⟨y5, h5, w5⟩ := fld fCo hl2 hf uCo hw 5 22 5 rfl
    rw [cStr] at h1 h2 h4
    rw [cInt] at h0 h3
    rw [cSs] at h5
    obtain ⟨a0, rfl, s0⟩ := int_el (u := c0) h0
    obtain ⟨a1, rfl, s1⟩ := str_el (u := c1) h1
    obtain ⟨a2, rfl, s2⟩ := str_el (u := c2) h2
    obtain ⟨a3, rfl, s3⟩ := int_el (u := c3) h3
    obtain ⟨a4, rfl, s4⟩ := str_el (u := c4) h4
    have : Inhabited ByteArray := ⟨⟨#[]⟩⟩
    obtain ⟨A, cap, l, rfl, ht, hq, hle, hmax, hby⟩ := wide_of (u := c5) (B := B) (fun s : ByteArray => [Value.string s]) _ Try.underlying22 cStr (by decide) (fun _ => rfl) (fun n cs y => txt_el n cs y) h5 w5
    rw [bStr] at hby
    exact ⟨⟨⟨a0, a1, a2, a3, a4, l⟩, A, cap⟩, rfl, ⟨s1, s2, s4, tbl_rd ht, Nat.le_trans hle hmax, hle, hq⟩, hby⟩

set_option maxRecDepth 100000 in
theorem sys_of {base : Nat} (v : Value) (d : DataW H) (p : List MemPlace) (k : DataW.Trod enc Try.prog W 0 (fun _ => true) true 27 v d p) (o : Value.okWide Try.prog W .any base 27 v) (hw : ∀ m ∈ d.weights Try.prog 27, m ≤ B) :
    ∃ s : MS, v = s.val ∧ SysM W s ∧ ∀ x ∈ s.cs, x.c.args.length * 16 ≤ B := by
  obtain ⟨cs, rfl, hcs⟩ := okWide_struct uSy o
  have h3 : cs.size = 3 := hcs.trans cSy
  obtain ⟨l⟩ := cs
  match l, h3 with
  | [c0, c1, c2], _ =>
    obtain ⟨fuel, hk⟩ := k
    obtain ⟨ys, m, _, hx, _, hl2, hf⟩ := DataW.trod_struct uSy hk
    have hd : d = .agg (ys.map (·.1)) := congrArg Prod.fst hx
    rw [hd] at hw
    obtain ⟨y0, h0, w0⟩ := fld fSy hl2 hf uSy hw 0 23 0 rfl
    obtain ⟨y1, h1, w1⟩ := fld fSy hl2 hf uSy hw 1 24 1 rfl
    obtain ⟨y2, h2, w2⟩ := fld fSy hl2 hf uSy hw 2 25 2 rfl
    rw [cOs] at h0
    rw [cFs] at h1
    rw [cCs] at h2
    have i0 : Inhabited MO := ⟨⟨⟨⟨#[]⟩, ⟨#[]⟩, []⟩, none, 0⟩⟩
    have i1 : Inhabited SF := ⟨⟨⟨#[]⟩, ⟨#[]⟩, ⟨#[]⟩⟩⟩
    have i2 : Inhabited MC := ⟨⟨⟨0, ⟨#[]⟩, ⟨#[]⟩, 0, ⟨#[]⟩, []⟩, none, 0⟩⟩
    obtain ⟨A0, cap0, l0, rfl, t0, q0, le0, m0, _⟩ := wide_of (u := c0) (B := B) MO.row _ Try.underlying23 cOb (by decide) (fun _ => rfl) (fun n cs y => obj_el n cs y) h0 w0
    obtain ⟨A1, cap1, l1, rfl, t1, q1, le1, m1, _⟩ := wide_of (u := c1) (B := B) fnRow _ Try.underlying24 cFn (by decide) (fun _ => rfl) (fun n cs y => fn_el n cs y) h1 w1
    obtain ⟨A2, cap2, l2, rfl, t2, q2, le2, m2, _⟩ := wide_of (u := c2) (B := B) MC.row _ Try.underlying25 cCo (by decide) (fun _ => rfl) (fun n cs y => con_el n cs y) h2 w2
    exact ⟨⟨A0, cap0, l0, A1, cap1, l1, A2, cap2, l2⟩, rfl, ⟨t0, t1, t2, q0, q1, fun x hx => (q2 x hx).1, Nat.le_trans le0 m0, Nat.le_trans le1 m1, Nat.le_trans le2 m2⟩, fun x hx => (q2 x hx).2⟩
end
end Go.Proofs.Ytdmmkjijgoiecaa.sy

/-
  system: marks, and functions, held against each other by ==: what the walks take of it.
-/
set_option linter.all false
namespace Go.Proofs.Ytdmmkjijgoiecaa.sy
open Go.RowKit

def sameMk (a b : Mk) : Bool := a.at_ == b.at_ && a.tag.toList == b.tag.toList
def sameF (a b : SF) : Bool := a.name.toList == b.name.toList && (a.kinds.toList == b.kinds.toList && a.ret.toList == b.ret.toList)
theorem ba_toList {a b : ByteArray} (h : a.toList = b.toList) : a = b := by
  rw [Lib.toList_data, Lib.toList_data] at h
  obtain ⟨⟨l⟩⟩ := a
  obtain ⟨⟨m⟩⟩ := b
  simp only at h
  rw [h]
theorem sameMk_iff {a b : Mk} : sameMk a b = true ↔ a = b := by
  obtain ⟨a1, a2⟩ := a
  obtain ⟨b1, b2⟩ := b
  unfold sameMk
  simp only [Bool.and_eq_true, beq_iff_eq, Mk.mk.injEq]
  exact ⟨fun h => ⟨h.1, ba_toList h.2⟩, fun h => ⟨h.1, by rw [h.2]⟩⟩
theorem sameF_iff {a b : SF} : sameF a b = true ↔ a = b := by
  obtain ⟨a1, a2, a3⟩ := a
  obtain ⟨b1, b2, b3⟩ := b
  unfold sameF
  simp only [Bool.and_eq_true, beq_iff_eq, SF.mk.injEq]
  exact ⟨fun h => ⟨ba_toList h.1, ba_toList h.2.1, ba_toList h.2.2⟩, fun h => ⟨by rw [h.1], by rw [h.2.1], by rw [h.2.2]⟩⟩
end Go.Proofs.Ytdmmkjijgoiecaa.sy
