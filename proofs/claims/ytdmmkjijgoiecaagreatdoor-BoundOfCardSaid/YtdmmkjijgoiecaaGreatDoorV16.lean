import Derived.Test.YtdmmkjijgoiecaaGreatDoorV14
import Derived.Test.YtdmmkjijgoiecaaGreatDoorMem
import Derived.Test.YtdmmkjijgoiecaaGreatDoorUNmE
import Derived.Maps.OwnSet
import Derived.Maps.OwnOps
import Derived.DeepKeys4
import Derived.OpenShut
import Derived.Deep.Slices
import Derived.SizedLaws
/-
  system: systems of constraints, in memory: what can be read.
-/
set_option linter.all false
namespace Go.Proofs.YtdmmkjijgoiecaaGreatDoor.sy
open Go.RowKit Go.Proofs.YtdmmkjijgoiecaaGreatDoor.mem

/-- rows of some cells each, one behind another -/
def Tbl (w : World) (A : Option Addr) (sz : Nat) (rows : List (List Value)) : Prop := 0 < rows.length → ∃ b off, A = some ⟨b, off, none⟩ ∧ b < w.heap.size ∧ ∀ (j : Nat) (hj : j < rows.length) (i : Nat) (v : Value), rows[j][i]? = some v → w.cell? ⟨b, off + j * sz + i, none⟩ = some v

theorem Tbl.below {w w' : World} {A : Option Addr} {sz : Nat} {rows : List (List Value)} (h : Tbl w A sz rows) (hb : Below w.heap.size w w') : Tbl w' A sz rows := fun hz => by
  obtain ⟨b, off, e, hl, hc⟩ := h hz
  exact ⟨b, off, e, Nat.lt_of_lt_of_le hl hb.size, fun j hj i v hv => (hb.cell (p := ⟨b, off + j * sz + i, none⟩) hl).trans (hc j hj i v hv)⟩

def mkRow (m : Mk) : List Value := [.int .i64 m.at_, .string m.tag]
def fnRow (f : SF) : List Value := [.string f.name, .string f.kinds, .string f.ret]
structure MO where
  o : SO
  mA : Option Addr
  mc : Nat
def MO.row (x : MO) : List Value := [.string x.o.name, .string x.o.kinds, .slice x.mA x.o.marks.length x.mc]
structure MC where
  c : SC
  aA : Option Addr
  ac : Nat
def MC.row (x : MC) : List Value := [.int .i64 x.c.op, .string x.c.a, .string x.c.b, .int .i64 x.c.k, .string x.c.tag, .slice x.aA x.c.args.length x.ac]

/-- what an object is made of lies below, and is no text beyond all length -/
structure MOk (w : World) (x : MO) : Prop where
  n : x.o.name.size ≤ maxLen
  k : x.o.kinds.size ≤ maxLen
  m : Tbl w x.mA 2 (x.o.marks.map mkRow)
  ml : x.o.marks.length ≤ maxLen
  mt : ∀ m ∈ x.o.marks, m.tag.size ≤ maxLen
  mw : ∀ m ∈ x.o.marks, (Lit.int .i64 m.at_).wf = true
  mcp : x.o.marks.length ≤ x.mc
structure FOk (f : SF) : Prop where
  n : f.name.size ≤ maxLen
  k : f.kinds.size ≤ maxLen
  r : f.ret.size ≤ maxLen
structure COk (w : World) (x : MC) : Prop where
  a : x.c.a.size ≤ maxLen
  b : x.c.b.size ≤ maxLen
  t : x.c.tag.size ≤ maxLen
  g : Rd w x.aA (x.c.args.map Value.string)
  gl : x.c.args.length ≤ maxLen
  gc : x.c.args.length ≤ x.ac
  gs : ∀ s ∈ x.c.args, s.size ≤ maxLen

theorem MOk.below {w w' : World} {x : MO} (h : MOk w x) (hb : Below w.heap.size w w') : MOk w' x := ⟨h.n, h.k, h.m.below hb, h.ml, h.mt, h.mw, h.mcp⟩
theorem COk.below {w w' : World} {x : MC} (h : COk w x) (hb : Below w.heap.size w w') : COk w' x := ⟨h.a, h.b, h.t, h.g.below hb, h.gl, h.gc, h.gs⟩

/-- a system as it lies -/
structure MS where
  oA : Option Addr
  oc : Nat
  os : List MO
  fA : Option Addr
  fc : Nat
  fs : List SF
  cA : Option Addr
  cc : Nat
  cs : List MC
def MS.sys (s : MS) : SS := ⟨s.os.map (·.o), s.fs, s.cs.map (·.c)⟩
def MS.val (s : MS) : Value := .agg #[.slice s.oA s.os.length s.oc, .slice s.fA s.fs.length s.fc, .slice s.cA s.cs.length s.cc]

structure SysM (w : World) (s : MS) : Prop where
  o : Tbl w s.oA 3 (s.os.map MO.row)
  f : Tbl w s.fA 3 (s.fs.map fnRow)
  c : Tbl w s.cA 6 (s.cs.map MC.row)
  ok : ∀ x ∈ s.os, MOk w x
  fk : ∀ x ∈ s.fs, FOk x
  ck : ∀ x ∈ s.cs, COk w x
  ol : s.os.length ≤ maxLen
  fl : s.fs.length ≤ maxLen
  cl : s.cs.length ≤ maxLen

theorem SysM.below {w w' : World} {s : MS} (h : SysM w s) (hb : Below w.heap.size w w') : SysM w' s :=
  ⟨h.o.below hb, h.f.below hb, h.c.below hb, fun x hx => (h.ok x hx).below hb, h.fk, fun x hx => (h.ck x hx).below hb, h.ol, h.fl, h.cl⟩

/-- an object's cells -/
theorem tbl_obj {w : World} {A : Option Addr} {os : List MO} (h : Tbl w A 3 (os.map MO.row)) {j : Nat} (hj : j < os.length) : ∃ b off, A = some ⟨b, off, none⟩ ∧ b < w.heap.size ∧ w.cell? ⟨b, off + j * 3, none⟩ = some (.string os[j].o.name) ∧ w.cell? ⟨b, off + j * 3 + 1, none⟩ = some (.string os[j].o.kinds) ∧ w.cell? ⟨b, off + j * 3 + 2, none⟩ = some (.slice os[j].mA os[j].o.marks.length os[j].mc) := by
  obtain ⟨b, off, e, hl, hc⟩ := h (by rw [List.length_map]; omega)
  have hr : ∀ i v, os[j].row[i]? = some v → w.cell? ⟨b, off + j * 3 + i, none⟩ = some v := fun i v hv => hc j (by rw [List.length_map]; exact hj) i v (by rw [List.getElem_map]; exact hv)
  exact ⟨b, off, e, hl, hr 0 _ rfl, hr 1 _ rfl, hr 2 _ rfl⟩
theorem tbl_fn {w : World} {A : Option Addr} {fs : List SF} (h : Tbl w A 3 (fs.map fnRow)) {j : Nat} (hj : j < fs.length) : ∃ b off, A = some ⟨b, off, none⟩ ∧ b < w.heap.size ∧ w.cell? ⟨b, off + j * 3, none⟩ = some (.string fs[j].name) ∧ w.cell? ⟨b, off + j * 3 + 1, none⟩ = some (.string fs[j].kinds) ∧ w.cell? ⟨b, off + j * 3 + 2, none⟩ = some (.string fs[j].ret) := by
  obtain ⟨b, off, e, hl, hc⟩ := h (by rw [List.length_map]; omega)
  have hr : ∀ i v, (fnRow fs[j])[i]? = some v → w.cell? ⟨b, off + j * 3 + i, none⟩ = some v := fun i v hv => hc j (by rw [List.length_map]; exact hj) i v (by rw [List.getElem_map]; exact hv)
  exact ⟨b, off, e, hl, hr 0 _ rfl, hr 1 _ rfl, hr 2 _ rfl⟩
theorem tbl_mk {w : World} {A : Option Addr} {ms : List Mk} (h : Tbl w A 2 (ms.map mkRow)) {j : Nat} (hj : j < ms.length) : ∃ b off, A = some ⟨b, off, none⟩ ∧ b < w.heap.size ∧ w.cell? ⟨b, off + j * 2, none⟩ = some (.int .i64 ms[j].at_) ∧ w.cell? ⟨b, off + j * 2 + 1, none⟩ = some (.string ms[j].tag) := by
  obtain ⟨b, off, e, hl, hc⟩ := h (by rw [List.length_map]; omega)
  have hr : ∀ i v, (mkRow ms[j])[i]? = some v → w.cell? ⟨b, off + j * 2 + i, none⟩ = some v := fun i v hv => hc j (by rw [List.length_map]; exact hj) i v (by rw [List.getElem_map]; exact hv)
  exact ⟨b, off, e, hl, hr 0 _ rfl, hr 1 _ rfl⟩
theorem tbl_con {w : World} {A : Option Addr} {cs : List MC} (h : Tbl w A 6 (cs.map MC.row)) {j : Nat} (hj : j < cs.length) : ∃ b off, A = some ⟨b, off, none⟩ ∧ b < w.heap.size ∧ w.cell? ⟨b, off + j * 6, none⟩ = some (.int .i64 cs[j].c.op) ∧ w.cell? ⟨b, off + j * 6 + 1, none⟩ = some (.string cs[j].c.a) ∧ w.cell? ⟨b, off + j * 6 + 2, none⟩ = some (.string cs[j].c.b) ∧ w.cell? ⟨b, off + j * 6 + 3, none⟩ = some (.int .i64 cs[j].c.k) ∧ w.cell? ⟨b, off + j * 6 + 4, none⟩ = some (.string cs[j].c.tag) ∧ w.cell? ⟨b, off + j * 6 + 5, none⟩ = some (.slice cs[j].aA cs[j].c.args.length cs[j].ac) := by
  obtain ⟨b, off, e, hl, hc⟩ := h (by rw [List.length_map]; omega)
  have hr : ∀ i v, cs[j].row[i]? = some v → w.cell? ⟨b, off + j * 6 + i, none⟩ = some v := fun i v hv => hc j (by rw [List.length_map]; exact hj) i v (by rw [List.getElem_map]; exact hv)
  exact ⟨b, off, e, hl, hr 0 _ rfl, hr 1 _ rfl, hr 2 _ rfl, hr 3 _ rfl, hr 4 _ rfl, hr 5 _ rfl⟩
end Go.Proofs.YtdmmkjijgoiecaaGreatDoor.sy

/-
  system: which texts are nodes and places: the walks, the reference's and the program's.
-/
set_option linter.all false
namespace Go.Proofs.YtdmmkjijgoiecaaGreatDoor.sy
open Go.RowKit Go.Proofs.YtdmmkjijgoiecaaGreatDoor.mem Go.Proofs.YtdmmkjijgoiecaaGreatDoor.nm

def BPost (b : Bool) (w : World) (e : Ending) (w' : World) : Prop := e = .returned (.bool b) ∧ Below w.heap.size w w'
theorem BPost.mk' {b c : Bool} {w w' : World} (h : b = c) (hb : Below w.heap.size w w') : BPost b w (.returned (.bool c)) w' := ⟨by rw [h], hb⟩

set_option maxHeartbeats 1000000 in
theorem rnode_any (s : ByteArray) (w : World) (hs : s.size ≤ maxLen) : Calls Tryz.prog 61 #[.string s] w (BPost (nodeB s) w) := by
  rcases hr : readB s with _ | _
  · have Hr := Lib.hid (fun w => rread_no s w hs hr)
    have Hv : Hid (nodeB s = false) := Lib.hid (by unfold nodeB; rw [hr]; rfl)
    unfold ReadNo at Hr
    rw [Hv.out]
    clear hr Hv
    unfold maxLen at hs
    go_enter Tryz.func61, Tryz.ntmps61
    go_wp2_with fail
    refine (Hr.out w).mono ?_
    rintro e w2 ⟨rfl, hb2⟩
    clear Hr
    go_wp2_with fail
    go_ret
    exact ⟨rfl, hb2.trans (((Fr.refl [] w2).alloc _).all.mono hb2.size)⟩
  · have Hr := Lib.hid (fun w => rread_yes s w hs hr)
    have Hv : Hid (nodeB s = (decide ((cand s).kind ≤ 3) || decide (0 ≤ (cand s).cell))) := Lib.hid (by unfold nodeB; rw [hr]; rfl)
    unfold ReadYes at Hr
    rw [Hv.out]
    clear Hv hr
    generalize cand s = d at *
    obtain ⟨kind, fn, copy, name, n, cell⟩ := d
    unfold Nd.val Nd.cells at Hr
    dsimp only at Hr ⊢
    unfold maxLen at hs
    by_cases h1 : kind ≤ 3
    · have d1 : decide (kind ≤ 3) = true := decide_eq_true h1
      rw [d1, Bool.true_or]
      go_enter Tryz.func61, Tryz.ntmps61
      go_wp2_with fail
      refine (Hr.out w).mono ?_
      rintro e w2 ⟨rfl, hb2⟩
      clear Hr
      go_wp2_with fail
      go_ret
      exact ⟨rfl, hb2.trans (((Fr.refl [] w2).alloc _).all.mono hb2.size)⟩
    · have d1 : decide (kind ≤ 3) = false := decide_eq_false h1
      rw [d1, Bool.false_or]
      by_cases h2 : 0 ≤ cell
      · have d2 : decide (0 ≤ cell) = true := decide_eq_true h2
        rw [d2]
        go_enter Tryz.func61, Tryz.ntmps61
        go_wp2_with fail
        refine (Hr.out w).mono ?_
        rintro e w2 ⟨rfl, hb2⟩
        clear Hr
        go_wp2_with fail
        go_ret
        exact ⟨rfl, hb2.trans (((Fr.refl [] w2).alloc _).all.mono hb2.size)⟩
      · have d2 : decide (0 ≤ cell) = false := decide_eq_false h2
        rw [d2]
        go_enter Tryz.func61, Tryz.ntmps61
        go_wp2_with fail
        refine (Hr.out w).mono ?_
        rintro e w2 ⟨rfl, hb2⟩
        clear Hr
        go_wp2_with fail
        go_ret
        exact ⟨rfl, hb2.trans (((Fr.refl [] w2).alloc _).all.mono hb2.size)⟩

set_option maxHeartbeats 1000000 in
theorem rplace_any (s : ByteArray) (w : World) (hs : s.size ≤ maxLen) : Calls Tryz.prog 165 #[.string s] w (BPost (placeB s) w) := by
  rcases hr : readB s with _ | _
  · have Hr := Lib.hid (fun w => rread_no s w hs hr)
    have Hv : Hid (placeB s = false) := Lib.hid (by unfold placeB; rw [hr]; rfl)
    unfold ReadNo at Hr
    rw [Hv.out]
    clear hr Hv
    unfold maxLen at hs
    go_enter Tryz.func165, Tryz.ntmps165
    go_wp2_with fail
    refine (Hr.out w).mono ?_
    rintro e w2 ⟨rfl, hb2⟩
    clear Hr
    go_wp2_with fail
    go_ret
    exact ⟨rfl, hb2.trans (((Fr.refl [] w2).alloc _).all.mono hb2.size)⟩
  · have Hr := Lib.hid (fun w => rread_yes s w hs hr)
    have Hv : Hid (placeB s = (decide ((cand s).kind = 4) || decide (0 ≤ (cand s).cell))) := Lib.hid (by unfold placeB; rw [hr]; rfl)
    unfold ReadYes at Hr
    rw [Hv.out]
    clear Hv hr
    generalize cand s = d at *
    obtain ⟨kind, fn, copy, name, n, cell⟩ := d
    unfold Nd.val Nd.cells at Hr
    dsimp only at Hr ⊢
    unfold maxLen at hs
    by_cases h1 : kind = 4
    · rw [decide_eq_true h1, Bool.true_or]
      have d1 : (kind == 4) = true := by rw [h1]; rfl
      clear h1
      go_enter Tryz.func165, Tryz.ntmps165
      go_wp2_with fail
      refine (Hr.out w).mono ?_
      rintro e w2 ⟨rfl, hb2⟩
      clear Hr
      go_wp2_with fail
      go_ret
      exact ⟨rfl, hb2.trans (((Fr.refl [] w2).alloc _).all.mono hb2.size)⟩
    · rw [decide_eq_false h1, Bool.false_or]
      have d1 : (kind == 4) = false := by simpa using h1
      clear h1
      by_cases h2 : 0 ≤ cell
      · have d2 : decide (0 ≤ cell) = true := decide_eq_true h2
        rw [d2]
        go_enter Tryz.func165, Tryz.ntmps165
        go_wp2_with fail
        refine (Hr.out w).mono ?_
        rintro e w2 ⟨rfl, hb2⟩
        clear Hr
        go_wp2_with fail
        go_ret
        exact ⟨rfl, hb2.trans (((Fr.refl [] w2).alloc _).all.mono hb2.size)⟩
      · have d2 : decide (0 ≤ cell) = false := decide_eq_false h2
        rw [d2]
        go_enter Tryz.func165, Tryz.ntmps165
        go_wp2_with fail
        refine (Hr.out w).mono ?_
        rintro e w2 ⟨rfl, hb2⟩
        clear Hr
        go_wp2_with fail
        go_ret
        exact ⟨rfl, hb2.trans (((Fr.refl [] w2).alloc _).all.mono hb2.size)⟩

/-- what a closure says of a node -/
def SoIs (f : Nat) (so : Nd → Bool) : Prop := ∀ (d : Nd) (w : World), Calls Tryz.prog f #[d.val] w (BPost (so d) w)

theorem so_node : SoIs 136 (fun d => decide (d.kind ≤ 3) || decide (0 ≤ d.cell)) := by
  intro d w
  obtain ⟨kind, fn, copy, name, n, cell⟩ := d
  unfold Nd.val Nd.cells
  dsimp only
  by_cases h1 : kind ≤ 3
  · have d1 : decide (kind ≤ 3) = true := decide_eq_true h1
    rw [d1, Bool.true_or]
    go_enter Tryz.func136, Tryz.ntmps136
    go_wp2_with fail
    go_ret
    exact ⟨rfl, ((Fr.refl [] w).alloc _).all⟩
  · have d1 : decide (kind ≤ 3) = false := decide_eq_false h1
    rw [d1, Bool.false_or]
    by_cases h2 : 0 ≤ cell
    · have d2 : decide (0 ≤ cell) = true := decide_eq_true h2
      rw [d2]
      go_enter Tryz.func136, Tryz.ntmps136
      go_wp2_with fail
      go_ret
      exact ⟨rfl, ((Fr.refl [] w).alloc _).all⟩
    · have d2 : decide (0 ≤ cell) = false := decide_eq_false h2
      rw [d2]
      go_enter Tryz.func136, Tryz.ntmps136
      go_wp2_with fail
      go_ret
      exact ⟨rfl, ((Fr.refl [] w).alloc _).all⟩

theorem so_place : SoIs 201 (fun d => decide (d.kind = 4) || decide (0 ≤ d.cell)) := by
  intro d w
  obtain ⟨kind, fn, copy, name, n, cell⟩ := d
  unfold Nd.val Nd.cells
  dsimp only
  by_cases h1 : kind = 4
  · rw [decide_eq_true h1, Bool.true_or]
    have d1 : (kind == 4) = true := by rw [h1]; rfl
    clear h1
    go_enter Tryz.func201, Tryz.ntmps201
    go_wp2_with fail
    go_ret
    exact ⟨rfl, ((Fr.refl [] w).alloc _).all⟩
  · rw [decide_eq_false h1, Bool.false_or]
    have d1 : (kind == 4) = false := by simpa using h1
    clear h1
    by_cases h2 : 0 ≤ cell
    · have d2 : decide (0 ≤ cell) = true := decide_eq_true h2
      rw [d2]
      go_enter Tryz.func201, Tryz.ntmps201
      go_wp2_with fail
      go_ret
      exact ⟨rfl, ((Fr.refl [] w).alloc _).all⟩
    · have d2 : decide (0 ≤ cell) = false := decide_eq_false h2
      rw [d2]
      go_enter Tryz.func201, Tryz.ntmps201
      go_wp2_with fail
      go_ret
      exact ⟨rfl, ((Fr.refl [] w).alloc _).all⟩

theorem so_obj : SoIs 198 (fun d => decide (5 ≤ d.kind) && decide (d.cell < 0)) := by
  intro d w
  obtain ⟨kind, fn, copy, name, n, cell⟩ := d
  unfold Nd.val Nd.cells
  dsimp only
  by_cases h1 : 5 ≤ kind
  · have d1 : decide (5 ≤ kind) = true := decide_eq_true h1
    rw [d1, Bool.true_and]
    by_cases h2 : cell < 0
    · have d2 : decide (cell < 0) = true := decide_eq_true h2
      rw [d2]
      go_enter Tryz.func198, Tryz.ntmps198
      go_wp2_with fail
      go_ret
      exact ⟨rfl, ((Fr.refl [] w).alloc _).all⟩
    · have d2 : decide (cell < 0) = false := decide_eq_false h2
      rw [d2]
      go_enter Tryz.func198, Tryz.ntmps198
      go_wp2_with fail
      go_ret
      exact ⟨rfl, ((Fr.refl [] w).alloc _).all⟩
  · have d1 : decide (5 ≤ kind) = false := decide_eq_false h1
    rw [d1, Bool.false_and]
    go_enter Tryz.func198, Tryz.ntmps198
    go_wp2_with fail
    go_ret
    exact ⟨rfl, ((Fr.refl [] w).alloc _).all⟩

theorem so_func : SoIs 200 (fun d => decide (d.kind = 4)) := by
  intro d w
  obtain ⟨kind, fn, copy, name, n, cell⟩ := d
  unfold Nd.val Nd.cells
  dsimp only
  have hv := Lib.hid (show (kind == 4) = decide (kind = 4) by rw [Bool.eq_iff_iff]; simp)
  go_enter Tryz.func200, Tryz.ntmps200
  go_wp2_with fail
  go_ret
  exact ⟨congrArg (fun b => Ending.returned (.bool b)) hv.out, ((Fr.refl [] w).alloc _).all⟩

theorem so_site : SoIs 202 (fun d => decide (d.kind = 3)) := by
  intro d w
  obtain ⟨kind, fn, copy, name, n, cell⟩ := d
  unfold Nd.val Nd.cells
  dsimp only
  have hv := Lib.hid (show (kind == 3) = decide (kind = 3) by rw [Bool.eq_iff_iff]; simp)
  go_enter Tryz.func202, Tryz.ntmps202
  go_wp2_with fail
  go_ret
  exact ⟨congrArg (fun b => Ending.returned (.bool b)) hv.out, ((Fr.refl [] w).alloc _).all⟩
end Go.Proofs.YtdmmkjijgoiecaaGreatDoor.sy

/-
  system: which texts are nodes, places, objects, functions, sites: the program's.
-/
set_option linter.all false
namespace Go.Proofs.YtdmmkjijgoiecaaGreatDoor.sy
open Go.RowKit Go.Proofs.YtdmmkjijgoiecaaGreatDoor.mem Go.Proofs.YtdmmkjijgoiecaaGreatDoor.nm

/-- the closure is a function with a body of its own -/
def Enters (f : Nat) : Prop := ∀ (args : Array Value) (w : World), (callFunc f args).run Tryz.prog w = .ok (.enter f args) w
theorem en_node : Enters 136 := by intro args w; go_simp
theorem en_place : Enters 201 := by intro args w; go_simp
theorem en_obj : Enters 198 := by intro args w; go_simp
theorem en_func : Enters 200 := by intro args w; go_simp
theorem en_site : Enters 202 := by intro args w; go_simp

theorem is_no (s : ByteArray) (f : Nat) (w : World) (hs : s.size ≤ maxLen) (htab : Tab w) (hr : readB s = false) : Calls Tryz.prog 135 #[.string s, .func (.func f) #[] #[]] w (BPost false w) := by
  have Hr := Lib.hid (read_no held s w hs htab hr)
  unfold ReadNo at Hr
  clear hr htab
  unfold maxLen at hs
  go_enter Tryz.func135, Tryz.ntmps135
  go_wp2_with fail
  refine Hr.out.mono ?_
  rintro e w2 ⟨rfl, hb2⟩
  clear Hr
  go_wp2_with fail
  go_ret
  exact ⟨rfl, hb2.trans (((Fr.refl [] w2).alloc _).all.mono hb2.size)⟩

set_option maxRecDepth 100000 in
theorem is_yes (s : ByteArray) (f : Nat) (so : Nd → Bool) (hso : SoIs f so) (hen : Enters f) (w : World) (hs : s.size ≤ maxLen) (htab : Tab w) (hr : readB s = true) : Calls Tryz.prog 135 #[.string s, .func (.func f) #[] #[]] w (BPost (so (cand s)) w) := by
  have Hr := Lib.hid (read_yes held s w hs htab hr)
  unfold ReadYes at Hr
  have Hso := Lib.hid (fun w => hso (cand s) w)
  unfold BPost at Hso ⊢
  generalize so (cand s) = b at *
  generalize cand s = d at *
  obtain ⟨kind, fn, copy, name, n, cell⟩ := d
  unfold Nd.val Nd.cells at Hr Hso
  dsimp only at Hr Hso
  clear hr htab hso
  unfold Enters at hen
  unfold maxLen at hs
  go_enter Tryz.func135, Tryz.ntmps135
  go_wp2_with fail
  refine Hr.out.mono ?_
  rintro e w2 ⟨rfl, hb2⟩
  clear Hr
  have hb3 := Lib.hid (hb2.trans (((Fr.refl [] w2).alloc (.cells #[.int .i64 kind, .string fn, .int .i64 copy, .string name, .int .i64 n, .int .i64 cell] 175)).all.mono hb2.size))
  go_wp2_with fail
  refine (Hso.out _).mono ?_
  rintro e w4 ⟨rfl, hb4⟩
  have hb5 := Lib.hid (hb3.out.trans (hb4.mono hb3.out.size))
  clear hb4 hb3 hb2
  go_wp2_with fail
  go_ret
  exact ⟨rfl, hb5.out⟩

theorem is_any (s : ByteArray) (f : Nat) (so : Nd → Bool) (hso : SoIs f so) (hen : Enters f) (w : World) (hs : s.size ≤ maxLen) (htab : Tab w) : Calls Tryz.prog 135 #[.string s, .func (.func f) #[] #[]] w (BPost (readB s && so (cand s)) w) := by
  rcases hr : readB s with _ | _
  · exact is_no s f w hs htab hr
  · exact is_yes s f so hso hen w hs htab hr

theorem node_any (s : ByteArray) (w : World) (hs : s.size ≤ maxLen) (htab : Tab w) : Calls Tryz.prog 82 #[.string s] w (BPost (nodeB s) w) := by
  have H := Lib.hid (is_any s _ _ so_node en_node w hs htab)
  unfold BPost at H ⊢
  rw [show (readB s && _) = nodeB s from rfl] at H
  go_enter Tryz.func82, Tryz.ntmps82
  go_wp2_with (refine H.out.mono ?_; rintro e w2 ⟨rfl, hb2⟩)
  go_ret
  exact ⟨rfl, hb2⟩
theorem place_any (s : ByteArray) (w : World) (hs : s.size ≤ maxLen) (htab : Tab w) : Calls Tryz.prog 174 #[.string s] w (BPost (placeB s) w) := by
  have H := Lib.hid (is_any s _ _ so_place en_place w hs htab)
  unfold BPost at H ⊢
  rw [show (readB s && _) = placeB s from rfl] at H
  go_enter Tryz.func174, Tryz.ntmps174
  go_wp2_with (refine H.out.mono ?_; rintro e w2 ⟨rfl, hb2⟩)
  go_ret
  exact ⟨rfl, hb2⟩
theorem obj_any (s : ByteArray) (w : World) (hs : s.size ≤ maxLen) (htab : Tab w) : Calls Tryz.prog 170 #[.string s] w (BPost (objB s) w) := by
  have H := Lib.hid (is_any s _ _ so_obj en_obj w hs htab)
  unfold BPost at H ⊢
  rw [show (readB s && _) = objB s from rfl] at H
  go_enter Tryz.func170, Tryz.ntmps170
  go_wp2_with (refine H.out.mono ?_; rintro e w2 ⟨rfl, hb2⟩)
  go_ret
  exact ⟨rfl, hb2⟩
theorem func_any (s : ByteArray) (w : World) (hs : s.size ≤ maxLen) (htab : Tab w) : Calls Tryz.prog 173 #[.string s] w (BPost (funcB s) w) := by
  have H := Lib.hid (is_any s _ _ so_func en_func w hs htab)
  unfold BPost at H ⊢
  rw [show (readB s && _) = funcB s from rfl] at H
  go_enter Tryz.func173, Tryz.ntmps173
  go_wp2_with (refine H.out.mono ?_; rintro e w2 ⟨rfl, hb2⟩)
  go_ret
  exact ⟨rfl, hb2⟩
theorem site_any (s : ByteArray) (w : World) (hs : s.size ≤ maxLen) (htab : Tab w) : Calls Tryz.prog 175 #[.string s] w (BPost (siteB s) w) := by
  have H := Lib.hid (is_any s _ _ so_site en_site w hs htab)
  unfold BPost at H ⊢
  rw [show (readB s && _) = siteB s from rfl] at H
  go_enter Tryz.func175, Tryz.ntmps175
  go_wp2_with (refine H.out.mono ?_; rintro e w2 ⟨rfl, hb2⟩)
  go_ret
  exact ⟨rfl, hb2⟩
end Go.Proofs.YtdmmkjijgoiecaaGreatDoor.sy

/-
  system: kinds: the reference's.
-/
set_option linter.all false
namespace Go.Proofs.YtdmmkjijgoiecaaGreatDoor.sy
open Go.RowKit Go.Proofs.YtdmmkjijgoiecaaGreatDoor.mem

def ipU (b : UInt8) : Bool := b == 105 || b == 112
theorem ipB_eq (s : ByteArray) : ipB s = s.data.toList.all ipU := by
  unfold ipB
  rw [Lib.toList_data]
  rfl

theorem all_take {s : ByteArray} {k : Nat} (hk : k < s.size) : (s.data.toList.take (k + 1)).all ipU = ((s.data.toList.take k).all ipU && ipU s[k]) := by
  rw [List.take_succ_eq_append_getElem (by rw [Array.length_toList]; exact hk), List.all_append]
  simp
  rfl

theorem num_ne {b c : UInt8} (h : b ≠ c) (n : Int) (hn : (c.toNat : Int) = n) : ((b.toNat : Int) != n) = true := by
  subst hn
  simp only [bne_iff_ne, ne_eq]
  intro h'
  exact h (UInt8.toNat_inj.1 (by omega))

set_option maxRecDepth 100000 in
theorem rkinds_same (s : ByteArray) (least most : Nat) (w : World) (hs : s.size ≤ maxLen) (hl : least ≤ 64) (hm : most ≤ 64) : Calls Tryz.prog 164 #[.string s, .int .i64 (least : Int), .int .i64 (most : Int)] w (fun e w' => e = .returned (.bool (kindsB s least most)) ∧ w' = w) := by
  unfold maxLen at hs
  have hR : Hid (kindsB s least most = (s.data.toList.all ipU && (decide ((least : Int) ≤ (s.size : Int)) && decide ((s.size : Int) ≤ (most : Int))))) := Lib.hid (by unfold kindsB; rw [ipB_eq]; congr 2 <;> simp [Int.ofNat_le])
  generalize kindsB s least most = R at *
  go_enter Tryz.func164, Tryz.ntmps164
  go_wp2_with fail
  go_loopw [7] (fun i wr => ∃ k : Nat, k ≤ s.size ∧ i = .int .i64 k ∧ Hid ((s.data.toList.take k).all ipU = true) ∧ w = wr) (fun i _ => s.size - (intOf i).toNat)
  case atStart => exact ⟨0, by omega, rfl, Lib.hid rfl, rfl⟩
  case round =>
    obtain ⟨k, hk, rfl, hf, rfl⟩ := hrel
    by_cases hkl : k < s.size
    · have e1 : decide ((k : Int) < (s.size : Int)) = true := decide_eq_true (by omega)
      have hf2 := Lib.hid (all_take hkl)
      by_cases h1 : s[k] = 105
      · have d1 : ((s[k].toNat : Int) != 105) = false := by rw [h1]; rfl
        have hb : ipU s[k] = true := by rw [h1]; rfl
        have hf3 : Hid ((s.data.toList.take (k + 1)).all ipU = true) := Lib.hid (by rw [hf2.out, hf.out, hb]; rfl)
        clear hf hf2 hb h1
        go_wp2_with fail
        go_roundw
        case rel => exact ⟨k + 1, by omega, by go_num, hf3, trivial⟩
        case measure => simp [intOf]; omega
      have d1 : ((s[k].toNat : Int) != 105) = true := num_ne h1 105 (by decide)
      by_cases h2 : s[k] = 112
      · have d2 : ((s[k].toNat : Int) != 112) = false := by rw [h2]; rfl
        have hb : ipU s[k] = true := by rw [h2]; rfl
        have hf3 : Hid ((s.data.toList.take (k + 1)).all ipU = true) := Lib.hid (by rw [hf2.out, hf.out, hb]; rfl)
        clear hf hf2 hb h1 h2
        go_wp2_with fail
        go_roundw
        case rel => exact ⟨k + 1, by omega, by go_num, hf3, trivial⟩
        case measure => simp [intOf]; omega
      · have d2 : ((s[k].toNat : Int) != 112) = true := num_ne h2 112 (by decide)
        have hb : ipU s[k] = false := by unfold ipU; simp [h1, h2]
        have hR0 : Hid (R = false) := Lib.hid (by
          rw [hR.out, show s.data.toList.all ipU = false from ?_, Bool.false_and]
          rw [List.all_eq_false]
          exact ⟨s[k], by simp; exact Array.getElem_mem _, by rw [hb]; simp⟩)
        clear hf hf2 hb h1 h2 hR
        go_wp2_with fail
        go_ret
        exact ⟨congrArg (fun b => Ending.returned (.bool b)) hR0.out.symm, rfl⟩
    · obtain rfl : k = s.size := by omega
      have e1 : decide ((s.size : Int) < (s.size : Int)) = false := decide_eq_false (by omega)
      have hall : s.data.toList.all ipU = true := by
        have h := hf.out
        rwa [List.take_of_length_le (by rw [Lib.size_eq s]; exact Nat.le_refl _)] at h
      clear hf
      rw [hall, Bool.true_and] at hR
      by_cases h3 : (least : Int) ≤ (s.size : Int)
      · have d3 : decide ((least : Int) ≤ (s.size : Int)) = true := decide_eq_true h3
        rw [d3, Bool.true_and] at hR
        have hR2 : Hid (decide (s.size ≤ most) = R) := Lib.hid (by rw [hR.out]; simp [Int.ofNat_le])
        clear hR
        go_wp2_with fail
        go_ret
        exact ⟨congrArg (fun b => Ending.returned (.bool b)) hR2.out, rfl⟩
      · have d3 : decide ((least : Int) ≤ (s.size : Int)) = false := decide_eq_false h3
        rw [d3, Bool.false_and] at hR
        go_wp2_with fail
        go_ret
        exact ⟨congrArg (fun b => Ending.returned (.bool b)) hR.out.symm, rfl⟩

theorem rkinds_any (s : ByteArray) (least most : Nat) (w : World) (hs : s.size ≤ maxLen) (hl : least ≤ 64) (hm : most ≤ 64) : Calls Tryz.prog 164 #[.string s, .int .i64 (least : Int), .int .i64 (most : Int)] w (BPost (kindsB s least most) w) :=
  (rkinds_same s least most w hs hl hm).mono fun _ _ h => ⟨h.1, h.2 ▸ Below.refl _ _⟩
end Go.Proofs.YtdmmkjijgoiecaaGreatDoor.sy

/-
  system: marks as keys of a map; marks in order, plain.
-/
set_option linter.all false
namespace Go.Proofs.YtdmmkjijgoiecaaGreatDoor.sy
open Go.RowKit Go.Proofs.YtdmmkjijgoiecaaGreatDoor.mem

theorem mrow : (101 : TypeId) < Tryz.prog.types.size := of_decide_eq_true (by kernel_rfl)
theorem mwide : (match Tryz.prog.underlying 101 with | some (.array _ _) | some (.struct _) => true | _ => false) = true := by kernel_rfl
theorem laidOut0 : laidOutB Tryz.prog = true := by kernel_rfl
set_option maxRecDepth 100000 in
theorem mlaw : Maps.Keyed Tryz.prog 101 := Maps.Keyed.of_law (deep_law_laid laidOut0 (m := 2) (by omega) mrow (by kernel_rfl) mwide)
theorem mzero (w : World) : (zeroValue 209).run Tryz.prog w = .ok (.agg #[]) w := by kernel_rfl

def mkV (m : Mk) : Value := .agg #[.int .i64 m.at_, .string m.tag]

set_option maxRecDepth 100000 in
theorem mk_key (m : Mk) (hw : (Lit.int .i64 m.at_).wf = true) (ht : m.tag.size ≤ maxLen) : ∃ kl, keyOf Tryz.prog 101 (mkV m) = some kl := by
  obtain ⟨at_, tag⟩ := m
  dsimp only at hw ht
  have hu := Tryz.underlying101
  have hi := Tryz.underlying3
  have hs := Tryz.underlying9
  have hkt : Tryz.prog.keyType 101 = true := by kernel_rfl
  have hfm : (mkV ⟨at_, tag⟩).formed Tryz.prog 101 = true := by kernel_rfl
  have hc2 : Tryz.prog.cellsOf 101 = 2 := by kernel_rfl
  have hci : Tryz.prog.cellsOf 3 = 1 := by kernel_rfl
  have hcs : Tryz.prog.cellsOf 9 = 1 := by kernel_rfl
  have hsz : ∃ n, Tryz.prog.types.size = n + 1 := ⟨Tryz.prog.types.size - 1, by kernel_rfl⟩
  obtain ⟨n, hn⟩ := hsz
  have h1 : Tryz.prog.keyLits (n + 1) 3 [.int .i64 at_] = some [.int .i64 at_] := by
    unfold Program.keyLits
    rw [hi]
    simp [hw]
  have h2 : Tryz.prog.keyLits (n + 1) 9 [.string tag] = some [.string tag.data.toList] := by
    unfold Program.keyLits
    rw [hs]
    simp [ht]
  have h3 : ∃ ls, Tryz.prog.keyLits (Tryz.prog.types.size + 1) 101 (mkV ⟨at_, tag⟩).cells.toList = some ls := by
    rw [hn]
    unfold Program.keyLits
    rw [hu]
    simp [mkV, Value.cells, hc2, hci, hcs, h1, h2]
  obtain ⟨ls, h3⟩ := h3
  refine ⟨.string (keyBytes ls), ?_⟩
  unfold keyOf
  rw [hu]
  simp only [hkt, hfm, h3, Bool.and_self, if_true, Option.map_some]

noncomputable def mkK (m : Mk) : Lit := (keyOf Tryz.prog 101 (mkV m)).getD (.int .i64 0)
theorem mk_keyOf (m : Mk) (hw : (Lit.int .i64 m.at_).wf = true) (ht : m.tag.size ≤ maxLen) : keyOf Tryz.prog 101 (mkV m) = some (mkK m) := by
  obtain ⟨kl, h⟩ := mk_key m hw ht
  unfold mkK
  rw [h]
  rfl

theorem mkV_inj {a b : Mk} (h : mkV a = mkV b) : a = b := by
  obtain ⟨a1, a2⟩ := a
  obtain ⟨b1, b2⟩ := b
  unfold mkV at h
  simp at h
  rw [h.1, h.2]

/-- the marks that were seen, as a set -/
noncomputable def seenD (l : List Mk) : DataW Unit := Maps.setOf (.agg []) (l.map mkK)
theorem seen_nil : seenD [] = .map [] := rfl
theorem seen_snoc (l : List Mk) (m : Mk) : seenD (l ++ [m]) = (seenD l).put (mkK m) (.agg []) := by
  unfold seenD
  rw [List.map_append, List.map_cons, List.map_nil, Maps.setOf_snoc]

set_option maxRecDepth 100000 in
theorem has_seen_iff {l : List Mk} {m : Mk} (hl : ∀ x ∈ l, (Lit.int .i64 x.at_).wf = true ∧ x.tag.size ≤ maxLen) (hm : (Lit.int .i64 m.at_).wf = true ∧ m.tag.size ≤ maxLen) : Maps.has (seenD l) (mkK m) = true ↔ m ∈ l := by
  unfold seenD
  have hkey : ∀ x ∈ l.map mkK, WideAt.IsKeyLit x := fun x hx => by
    obtain ⟨y, hy, rfl⟩ := List.mem_map.1 hx
    exact mlaw.key (mk_keyOf y (hl y hy).1 (hl y hy).2)
  rw [Maps.has_setOf _ _ _ hkey, List.any_eq_true]
  have hkm : WideAt.IsKeyLit (mkK m) := mlaw.key (mk_keyOf m hm.1 hm.2)
  constructor
  · rintro ⟨x, hx, hs⟩
    obtain ⟨y, hy, rfl⟩ := List.mem_map.1 hx
    have e := (WideAt.sameKey_iff hkm).1 hs
    have h1 := mk_keyOf y (hl y hy).1 (hl y hy).2
    rw [e] at h1
    exact mkV_inj (mlaw.inj h1 (mk_keyOf m hm.1 hm.2)) ▸ hy
  · intro h
    exact ⟨mkK m, List.mem_map_of_mem h, WideAt.sameKey_self hkm⟩

/-- where the mark ahead of the k-th stands -/
def atOf (ms : List Mk) : Nat → Int
  | 0 => 0
  | q + 1 => match ms[q]? with
    | some m => m.at_
    | none => 0
theorem atOf_succ {ms : List Mk} {k : Nat} (hk : k < ms.length) : atOf ms (k + 1) = ms[k].at_ := by
  show (match ms[k]? with
    | some m => m.at_
    | none => 0) = _
  rw [List.getElem?_eq_getElem hk]

theorem mks_succ {ms : List Mk} {n k : Nat} (hk : k < ms.length) : mksOk ms n (k + 1) ↔ mksOk ms n k ∧ mkGood ms n k ms[k] := by
  constructor
  · intro h
    exact ⟨fun i m hi hm => h i m (by omega) hm, h k _ (by omega) (List.getElem?_eq_getElem hk)⟩
  · rintro ⟨h1, h2⟩ i m hi hm
    by_cases hik : i < k
    · exact h1 i m hik hm
    · obtain rfl : i = k := by omega
      rw [List.getElem?_eq_getElem hk] at hm
      exact (Option.some.inj hm) ▸ h2
theorem mks_bad {ms : List Mk} {n k : Nat} (hk : k < ms.length) (h : ¬ mkGood ms n k ms[k]) : ¬ mksOk ms n ms.length :=
  fun h1 => h (h1 k _ hk (List.getElem?_eq_getElem hk))

open Classical in
noncomputable def mksE (ms : List Mk) (n : Nat) : Int := if mksOk ms n ms.length then 0 else 3
theorem mksE_yes {ms : List Mk} {n : Nat} (h : mksOk ms n ms.length) : mksE ms n = 0 := by unfold mksE; rw [if_pos h]
theorem mksE_no {ms : List Mk} {n : Nat} (h : ¬ mksOk ms n ms.length) : mksE ms n = 3 := by unfold mksE; rw [if_neg h]
def objI (a b : Bool) (z : Int) : Int := if a = false then 11 else if b = false then 5 else z
theorem objE_eq (o : SO) : objE o = objI (objB o.name) (kindsB o.kinds 1 64) (mksE o.marks o.kinds.size) := rfl

theorem mk_step {ms : List Mk} {n k : Nat} (hk : k < ms.length) (hok : mksOk ms n k) : mkGood ms n k ms[k] ↔ (ms[k] ∉ ms.take k ∧ atOf ms k ≤ ms[k].at_ ∧ ms[k].at_ < n ∧ tagB ms[k].tag = true) := by
  have hmem : ms[k] ∉ ms.take k ↔ ∀ q, q < k → ∀ p, ms[q]? = some p → ¬ (p.at_ = ms[k].at_ ∧ p.tag = ms[k].tag) := by
    constructor
    · intro h q hq p hp he
      apply h
      have : p = ms[k] := by
        obtain ⟨p1, p2⟩ := p
        generalize ms[k] = z at he
        obtain ⟨z1, z2⟩ := z
        simp only at he
        rw [he.1, he.2]
      rw [← this]
      exact List.mem_take_iff_getElem.2 ⟨q, by have := (List.getElem?_eq_some_iff.1 hp).1; omega, (List.getElem?_eq_some_iff.1 hp).2⟩
    · intro h hm
      obtain ⟨q, hq, he⟩ := List.mem_take_iff_getElem.1 hm
      exact h q (by omega) ms[q] (List.getElem?_eq_getElem (by omega)) ⟨by rw [he], by rw [he]⟩
  unfold mkGood
  rw [hmem]
  constructor
  · rintro ⟨h1, h2, h3, h4, h5⟩
    refine ⟨h5, ?_, h2, h3⟩
    cases k with
    | zero => exact h1
    | succ q =>
      rw [atOf_succ (by omega)]
      exact h4 q rfl _ (List.getElem?_eq_getElem (by omega))
  · rintro ⟨h1, h2, h3, h4⟩
    refine ⟨?_, h3, h4, ?_, h1⟩
    · cases k with
      | zero => exact h2
      | succ q =>
        rw [atOf_succ (by omega)] at h2
        have := (hok q _ (by omega) (List.getElem?_eq_getElem (by omega))).1
        omega
    · intro q hq p hp
      subst hq
      rw [atOf_succ (by omega)] at h2
      rw [List.getElem?_eq_getElem (by omega)] at hp
      exact (Option.some.inj hp) ▸ h2
end Go.Proofs.YtdmmkjijgoiecaaGreatDoor.sy

/-
  system: marks, and functions, held against each other by ==: what the walks take of it.
-/
set_option linter.all false
namespace Go.Proofs.YtdmmkjijgoiecaaGreatDoor.sy
open Go.RowKit

def fnV (f : SF) : Value := .agg #[.string f.name, .string f.kinds, .string f.ret]
def sameMk (a b : Mk) : Bool := a.at_ == b.at_ && a.tag.toList == b.tag.toList
def sameF (a b : SF) : Bool := a.name.toList == b.name.toList && (a.kinds.toList == b.kinds.toList && a.ret.toList == b.ret.toList)
structure HeldM : Prop where
  eq : ∀ (a b : Mk) (w : World), (binOp .eql 101 (mkV a) (mkV b)).run Tryz.prog w = .ok (.bool (sameMk a b)) w
  ne : ∀ (a b : Mk) (w : World), (binOp .neq 101 (mkV a) (mkV b)).run Tryz.prog w = .ok (.bool (!sameMk a b)) w
  guard : ∀ (op : BinOp) (x y : Operand) (xs ys : Array Value) (w : World), (eqGuard op 101 x y (.agg xs) (.agg ys)).run Tryz.prog w = .ok () w
structure HeldF : Prop where
  eq : ∀ (a b : SF) (w : World), (binOp .eql 103 (fnV a) (fnV b)).run Tryz.prog w = .ok (.bool (sameF a b)) w
  ne : ∀ (a b : SF) (w : World), (binOp .neq 103 (fnV a) (fnV b)).run Tryz.prog w = .ok (.bool (!sameF a b)) w
  guard : ∀ (op : BinOp) (x y : Operand) (xs ys : Array Value) (w : World), (eqGuard op 103 x y (.agg xs) (.agg ys)).run Tryz.prog w = .ok () w

theorem ba_toList {a b : ByteArray} (h : a.toList = b.toList) : a = b := by
  rw [Lib.toList_data, Lib.toList_data] at h
  obtain ⟨⟨l⟩⟩ := a
  obtain ⟨⟨m⟩⟩ := b
  simp only at h
  rw [h]
theorem sameMk_iff {a b : Mk} : sameMk a b = true ↔ a = b := by
  obtain ⟨a1, a2⟩ := a
  obtain ⟨b1, b2⟩ := b
  unfold sameMk
  simp only [Bool.and_eq_true, beq_iff_eq, Mk.mk.injEq]
  exact ⟨fun h => ⟨h.1, ba_toList h.2⟩, fun h => ⟨h.1, by rw [h.2]⟩⟩
theorem sameF_iff {a b : SF} : sameF a b = true ↔ a = b := by
  obtain ⟨a1, a2, a3⟩ := a
  obtain ⟨b1, b2, b3⟩ := b
  unfold sameF
  simp only [Bool.and_eq_true, beq_iff_eq, SF.mk.injEq]
  exact ⟨fun h => ⟨ba_toList h.1, ba_toList h.2.1, ba_toList h.2.2⟩, fun h => ⟨by rw [h.1], by rw [h.2.1], by rw [h.2.2]⟩⟩
end Go.Proofs.YtdmmkjijgoiecaaGreatDoor.sy

/-
  Arguments: slices whose elements have several cells each, nested; with what the row says of their weights.
-/
set_option linter.all false
namespace Go.Proofs.YtdmmkjijgoiecaaGreatDoor.sy
open Go.RowKit Go.ChangeShapes Go.WideShapes Go.Proofs.YtdmmkjijgoiecaaGreatDoor.mem

theorem block_of_cell {w : World} {a : Addr} {v : Value} (h : w.cell? a = some v) : a.block < w.heap.size := by
  unfold World.cell? at h
  rcases Nat.lt_or_ge a.block w.heap.size with h1 | h1
  · exact h1
  · rw [Array.getElem?_eq_none h1] at h; cases h

theorem mem_all {H : Type} {P : Program} {e : TypeId} : ∀ {l : List (DataW H)} {d : DataW H}, d ∈ l → ∀ n ∈ d.weights P e, n ∈ DataW.weightsAll P e l
  | [], d, h, _, _ => by simp at h
  | x :: l, d, h, n, hn => by
    simp only [DataW.weightsAll, List.mem_append]
    rcases List.mem_cons.1 h with rfl | h
    · exact Or.inl hn
    · exact Or.inr (mem_all h n hn)

theorem wide_of {P : Program} {t e : TypeId} {H : Type} {enc : TypeId × Value → H} {W : World} {fuel : Nat} {u : Value} {x : DataW H × List MemPlace} {α : Type} [Inhabited α] {B sz : Nat} (row : α → List Value) (Q : α → Prop)
    (ht : P.underlying t = some (.slice e)) (hc : P.cellsOf e = sz) (hz : 0 < sz) (hr : ∀ x, (row x).length = sz)
    (hf : ∀ (n : Nat) (cs : List Value) (y : DataW H × List MemPlace), DataW.trod enc P W 0 (fun _ => true) true n e cs = some y → cs.length = sz → (∀ m ∈ y.1.weights P e, m ≤ B) → ∃ x, cs = row x ∧ Q x)
    (h : DataW.trod enc P W 0 (fun _ => true) true fuel t [u] = some x) (hw : ∀ m ∈ x.1.weights P t, m ≤ B) :
    ∃ (A : Option Addr) (cap : Nat) (xs : List α), u = .slice A xs.length cap ∧ Tbl W A sz (xs.map row) ∧ (∀ x ∈ xs, Q x) ∧ xs.length ≤ cap ∧ cap ≤ maxLen ∧ xs.length * P.bytesOf e ≤ B := by
  rcases Go.Deep.open_slice ht h with ⟨hcs, _⟩ | ⟨a, l, c, m, n, D, Pl, hcs, _, hl, hm, hmm, hxd, hx⟩
  · simp only [List.cons.injEq, and_true] at hcs
    subst hcs
    exact ⟨none, 0, [], rfl, fun h => by simp at h, by simp, Nat.le_refl _, Nat.zero_le _, by simp⟩
  · simp only [List.cons.injEq, and_true] at hcs
    subst hcs
    simp only [if_true] at hmm
    subst hmm
    have hd : x.1 = .slice ((List.range l).map D) ((List.range (m - l)).map fun j => D (l + j)) := congrArg Prod.fst hxd
    rw [hd] at hw
    simp only [DataW.weights, ht, List.mem_cons, List.mem_append, List.length_map, List.length_range] at hw
    have hwd : ∀ i, i < m → ∀ q ∈ (D i).weights P e, q ≤ B := fun i hi q hq => by
      rcases Nat.lt_or_ge i l with h1 | h1
      · exact hw q (Or.inr (Or.inl (mem_all (List.mem_map.2 ⟨i, List.mem_range.2 h1, rfl⟩) q hq)))
      · exact hw q (Or.inr (Or.inr (mem_all (List.mem_map.2 ⟨i - l, List.mem_range.2 (by omega), by rw [show l + (i - l) = i by omega]⟩) q hq)))
    have hb := hw _ (Or.inl rfl)
    rw [show l + (m - l) = m by omega] at hb
    rw [hc] at hx
    obtain ⟨X, hX⟩ := Go.Deep.choose_lt (α := α) (p := fun i x => (∀ (j : Nat) (v : Value), (row x)[j]? = some v → W.cell? (a.add (i * sz + j)) = some v) ∧ Q x) (n := m) (fun i hi => by
      obtain ⟨cs', h1, h2⟩ := hx i hi
      obtain ⟨_, hcl, hat⟩ := World.cells?_some h1
      obtain ⟨x, rfl, hq⟩ := hf n _ _ h2 hcl (hwd i hi)
      refine ⟨x, fun j v hv => ?_, hq⟩
      have hj : j < sz := by rw [← hcl]; exact (List.getElem?_eq_some_iff.1 hv).1
      have h0 := hat j hj
      rw [Go.Deep.add_add] at h0
      rw [h0, ← hv])
    refine ⟨some a, m, (List.range l).map X, by simp, fun hzz => ?_, fun x hx' => ?_, by simpa using hl, hm, ?_⟩
    · simp only [List.length_map, List.length_range] at hzz
      obtain ⟨v0, hv0⟩ : ∃ v, (row (X 0))[0]? = some v := ⟨_, List.getElem?_eq_getElem (by rw [hr]; exact hz)⟩
      have h0 := (hX 0 (by omega)).1 0 v0 hv0
      obtain ⟨b, off, spot⟩ := a
      have hs : spot = none := by simpa [Addr.add] using World.cell?_spot h0
      subst hs
      refine ⟨b, off, rfl, by have := block_of_cell h0; simpa [Addr.add] using this, fun j hj i v hv => ?_⟩
      simp only [List.length_map, List.length_range] at hj
      have hv2 : (row (X j))[i]? = some v := by simpa using hv
      have := (hX j (by omega)).1 i v hv2
      rwa [Go.WideShapes.add_plain, ← Nat.add_assoc] at this
    · obtain ⟨i, hi, rfl⟩ := List.mem_map.1 hx'
      exact (hX i (by have := List.mem_range.1 hi; omega)).2
    · simp only [List.length_map, List.length_range]
      exact Nat.le_trans (Nat.mul_le_mul_right _ hl) hb

/-- a struct's field -/
theorem fld {P : Program} {e : TypeId} {H : Type} {enc : TypeId × Value → H} {W : World} {tys : List (TypeId × Nat)} (hq : (P.fieldsOf e).toList.map (fun f => (f.type, f.offset)) = tys) {ys : List (DataW H × List MemPlace)} {n : Nat} {cs : List Value} (hl : ys.length = (P.fieldsOf e).size)
    (hf : ∀ (i : Nat) (f : Field), (P.fieldsOf e)[i]? = some f → DataW.trod enc P W 0 (fun _ => true) true n f.type ((cs.drop f.offset).take (P.cellsOf f.type)) = ys[i]?) (hu : P.underlying e = some (.struct (P.fieldsOf e))) {B : Nat} (hw : ∀ m ∈ (DataW.agg (ys.map (·.1))).weights P e, m ≤ B)
    (i : Nat) (t : TypeId) (o : Nat) (hi : tys[i]? = some (t, o)) : ∃ y, DataW.trod enc P W 0 (fun _ => true) true n t ((cs.drop o).take (P.cellsOf t)) = some y ∧ ∀ m ∈ y.1.weights P t, m ≤ B := by
  rw [← hq, List.getElem?_map] at hi
  obtain ⟨f, h1, h2⟩ := Option.map_eq_some_iff.1 hi
  rw [Array.getElem?_toList] at h1
  simp only [Prod.mk.injEq] at h2
  have hlt : i < ys.length := by rw [hl]; exact (Array.getElem?_eq_some_iff.1 h1).1
  have h3 := hf i f h1
  rw [h2.1, h2.2, List.getElem?_eq_getElem hlt] at h3
  refine ⟨ys[i], h3, fun m hm => hw m ?_⟩
  simp only [DataW.weights, hu]
  exact DataW.weights_mem_each (j := i) (t := t) (d := ys[i].1) (by rw [List.getElem?_map, Array.getElem?_toList, h1]; simp [h2.1]) (by rw [List.getElem?_map, List.getElem?_eq_getElem hlt]; rfl) m hm
end Go.Proofs.YtdmmkjijgoiecaaGreatDoor.sy

/-
  system: a system as it comes in.
-/
set_option linter.all false
namespace Go.Proofs.YtdmmkjijgoiecaaGreatDoor.sy
open Go.RowKit Go.ChangeShapes Go.WideShapes Go.Proofs.YtdmmkjijgoiecaaGreatDoor.mem

theorem cStr : Tryz.prog.cellsOf 9 = 1 := by kernel_rfl
theorem cInt : Tryz.prog.cellsOf 3 = 1 := by kernel_rfl
theorem cMk : Tryz.prog.cellsOf 101 = 2 := by kernel_rfl
theorem cOb : Tryz.prog.cellsOf 99 = 3 := by kernel_rfl
theorem cFn : Tryz.prog.cellsOf 103 = 3 := by kernel_rfl
theorem cCo : Tryz.prog.cellsOf 105 = 6 := by kernel_rfl
theorem cMs : Tryz.prog.cellsOf 97 = 1 := by kernel_rfl
theorem cSs : Tryz.prog.cellsOf 22 = 1 := by kernel_rfl
theorem cOs : Tryz.prog.cellsOf 23 = 1 := by kernel_rfl
theorem cFs : Tryz.prog.cellsOf 24 = 1 := by kernel_rfl
theorem cCs : Tryz.prog.cellsOf 25 = 1 := by kernel_rfl
theorem cSy : Tryz.prog.cellsOf 27 = 3 := by kernel_rfl
theorem bStr : Tryz.prog.bytesOf 9 = 16 := by kernel_rfl
theorem uMk : Tryz.prog.underlying 101 = some (.struct (Tryz.prog.fieldsOf 101)) := by kernel_rfl
theorem uOb : Tryz.prog.underlying 99 = some (.struct (Tryz.prog.fieldsOf 99)) := by kernel_rfl
theorem uFn : Tryz.prog.underlying 103 = some (.struct (Tryz.prog.fieldsOf 103)) := by kernel_rfl
theorem uCo : Tryz.prog.underlying 105 = some (.struct (Tryz.prog.fieldsOf 105)) := by kernel_rfl
theorem uSy : Tryz.prog.underlying 27 = some (.struct (Tryz.prog.fieldsOf 27)) := by kernel_rfl
theorem fMk : (Tryz.prog.fieldsOf 101).toList.map (fun f => (f.type, f.offset)) = [(3, 0), (9, 1)] := by kernel_rfl
theorem fOb : (Tryz.prog.fieldsOf 99).toList.map (fun f => (f.type, f.offset)) = [(9, 0), (9, 1), (97, 2)] := by kernel_rfl
theorem fFn : (Tryz.prog.fieldsOf 103).toList.map (fun f => (f.type, f.offset)) = [(9, 0), (9, 1), (9, 2)] := by kernel_rfl
theorem fCo : (Tryz.prog.fieldsOf 105).toList.map (fun f => (f.type, f.offset)) = [(3, 0), (9, 1), (9, 2), (3, 3), (9, 4), (22, 5)] := by kernel_rfl
theorem fSy : (Tryz.prog.fieldsOf 27).toList.map (fun f => (f.type, f.offset)) = [(23, 0), (24, 1), (25, 2)] := by kernel_rfl

section
variable {H : Type} {enc : TypeId × Value → H} {W : World} {B : Nat}

theorem str_el {n : Nat} {u : Value} {y : DataW H × List MemPlace} (h : DataW.trod enc Tryz.prog W 0 (fun _ => true) true n 9 [u] = some y) : ∃ a : ByteArray, u = .string a ∧ a.size ≤ maxLen := by
  obtain ⟨a, e, _, hs⟩ := DataW.trod_string Tryz.underlying9 h
  simp only [List.cons.injEq, and_true] at e
  exact ⟨a, e, hs⟩
theorem int_el {n : Nat} {u : Value} {y : DataW H × List MemPlace} (h : DataW.trod enc Tryz.prog W 0 (fun _ => true) true n 3 [u] = some y) : ∃ a : Int, u = .int .i64 a ∧ (Lit.int .i64 a).wf = true := by
  obtain ⟨a, e, _, hs⟩ := DataW.trod_int Tryz.underlying3 h
  simp only [List.cons.injEq, and_true] at e
  exact ⟨a, e, hs⟩

theorem mk_el (n : Nat) (cs : List Value) (y : DataW H × List MemPlace) (h : DataW.trod enc Tryz.prog W 0 (fun _ => true) true n 101 cs = some y) (hl : cs.length = 2) (hw : ∀ m ∈ y.1.weights Tryz.prog 101, m ≤ B) :
    ∃ x : Mk, cs = mkRow x ∧ (x.tag.size ≤ maxLen ∧ (Lit.int .i64 x.at_).wf = true) := by
  match cs, hl with
  | [c0, c1], _ =>
    obtain ⟨ys, m, _, hx, _, hl2, hf⟩ := DataW.trod_struct uMk h
    rw [hx] at hw
    obtain ⟨y0, h0, w0⟩ := fld fMk hl2 hf uMk hw 0 3 0 rfl
    obtain ⟨y1, h1, w1⟩ := fld fMk hl2 hf uMk hw 1 9 1 rfl
    rw [cInt] at h0
    rw [cStr] at h1
    obtain ⟨a0, rfl, s0⟩ := int_el (u := c0) h0
    obtain ⟨a1, rfl, s1⟩ := str_el (u := c1) h1
    exact ⟨⟨a0, a1⟩, rfl, s1, s0⟩

theorem obj_el (n : Nat) (cs : List Value) (y : DataW H × List MemPlace) (h : DataW.trod enc Tryz.prog W 0 (fun _ => true) true n 99 cs = some y) (hl : cs.length = 3) (hw : ∀ m ∈ y.1.weights Tryz.prog 99, m ≤ B) :
    ∃ x : MO, cs = x.row ∧ MOk W x := by
  match cs, hl with
  | [c0, c1, c2], _ =>
    obtain ⟨ys, m, _, hx, _, hl2, hf⟩ := DataW.trod_struct uOb h
    rw [hx] at hw
    obtain ⟨y0, h0, w0⟩ := fld fOb hl2 hf uOb hw 0 9 0 rfl
    obtain ⟨y1, h1, w1⟩ := fld fOb hl2 hf uOb hw 1 9 1 rfl
    obtain ⟨y2, h2, w2⟩ := fld fOb hl2 hf uOb hw 2 97 2 rfl
    rw [cStr] at h0 h1
    rw [cMs] at h2
    obtain ⟨a0, rfl, s0⟩ := str_el (u := c0) h0
    obtain ⟨a1, rfl, s1⟩ := str_el (u := c1) h1
    have : Inhabited Mk := ⟨⟨0, ⟨#[]⟩⟩⟩
    obtain ⟨A, cap, ms, rfl, ht, hq, hle, hmax, _⟩ := wide_of (u := c2) (B := B) mkRow _ Tryz.underlying97 cMk (by decide) (fun _ => rfl) (fun n cs y => mk_el n cs y) h2 w2
    exact ⟨⟨⟨a0, a1, ms⟩, A, cap⟩, rfl, ⟨s0, s1, ht, Nat.le_trans hle hmax, fun x hx => (hq x hx).1, fun x hx => (hq x hx).2, hle⟩⟩

theorem fn_el (n : Nat) (cs : List Value) (y : DataW H × List MemPlace) (h : DataW.trod enc Tryz.prog W 0 (fun _ => true) true n 103 cs = some y) (hl : cs.length = 3) (hw : ∀ m ∈ y.1.weights Tryz.prog 103, m ≤ B) :
    ∃ x : SF, cs = fnRow x ∧ FOk x := by
  match cs, hl with
  | [c0, c1, c2], _ =>
    obtain ⟨ys, m, _, hx, _, hl2, hf⟩ := DataW.trod_struct uFn h
    rw [hx] at hw
    obtain ⟨y0, h0, w0⟩ := fld fFn hl2 hf uFn hw 0 9 0 rfl
    obtain ⟨y1, h1, w1⟩ := fld fFn hl2 hf uFn hw 1 9 1 rfl
    obtain ⟨y2, h2, w2⟩ := fld fFn hl2 hf uFn hw 2 9 2 rfl
    rw [cStr] at h0 h1 h2
    obtain ⟨a0, rfl, s0⟩ := str_el (u := c0) h0
    obtain ⟨a1, rfl, s1⟩ := str_el (u := c1) h1
    obtain ⟨a2, rfl, s2⟩ := str_el (u := c2) h2
    exact ⟨⟨a0, a1, a2⟩, rfl, ⟨s0, s1, s2⟩⟩

theorem txt_el (n : Nat) (cs : List Value) (y : DataW H × List MemPlace) (h : DataW.trod enc Tryz.prog W 0 (fun _ => true) true n 9 cs = some y) (hl : cs.length = 1) (hw : ∀ m ∈ y.1.weights Tryz.prog 9, m ≤ B) :
    ∃ x : ByteArray, cs = [.string x] ∧ x.size ≤ maxLen := by
  match cs, hl with
  | [c0], _ =>
    obtain ⟨a0, rfl, s0⟩ := str_el (u := c0) h
    exact ⟨a0, rfl, s0⟩

theorem tbl_rd {w : World} {A : Option Addr} {l : List ByteArray} (h : Tbl w A 1 (l.map fun s => [Value.string s])) : Rd w A (l.map Value.string) := fun hz => by
  rw [List.length_map] at hz
  obtain ⟨b, off, e, hl, hc⟩ := h (by simpa using hz)
  refine ⟨b, off, e, hl, fun j hj => ?_⟩
  rw [List.length_map] at hj
  have := hc j (by simpa using hj) 0 (.string l[j]) (by simp)
  rw [Nat.mul_one, Nat.add_zero] at this
  rw [this, List.getElem_map]

/-- a constraint, and how many Args it may have -/
def CQ (W : World) (B : Nat) (x : MC) : Prop := COk W x ∧ x.c.args.length * 16 ≤ B
theorem con_el (n : Nat) (cs : List Value) (y : DataW H × List MemPlace) (h : DataW.trod enc Tryz.prog W 0 (fun _ => true) true n 105 cs = some y) (hl : cs.length = 6) (hw : ∀ m ∈ y.1.weights Tryz.prog 105, m ≤ B) :
    ∃ x : MC, cs = x.row ∧ CQ W B x := by
  match cs, hl with
  | [c0, c1, c2, c3, c4, c5], _ =>
    obtain ⟨ys, m, _, hx, _, hl2, hf⟩ := DataW.trod_struct uCo h
    rw [hx] at hw
    obtain ⟨y0, h0, w0⟩ := fld fCo hl2 hf uCo hw 0 3 0 rfl
    obtain ⟨y1, h1, w1⟩ := fld fCo hl2 hf uCo hw 1 9 1 rfl
    obtain ⟨y2, h2, w2⟩ := fld fCo hl2 hf uCo hw 2 9 2 rfl
    obtain ⟨y3, h3, w3⟩ := fld fCo hl2 hf uCo hw 3 3 3 rfl
    obtain ⟨y4, h4, w4⟩ := fld fCo hl2 hf uCo hw 4 9 4 rfl
    obtain ⟨y5, h5, w5⟩ := fld fCo hl2 hf uCo hw 5 22 5 rfl
    rw [cStr] at h1 h2 h4
    rw [cInt] at h0 h3
    rw [cSs] at h5
    obtain ⟨a0, rfl, s0⟩ := int_el (u := c0) h0
    obtain ⟨a1, rfl, s1⟩ := str_el (u := c1) h1
    obtain ⟨a2, rfl, s2⟩ := str_el (u := c2) h2
    obtain ⟨a3, rfl, s3⟩ := int_el (u := c3) h3
    obtain ⟨a4, rfl, s4⟩ := str_el (u := c4) h4
    have : Inhabited ByteArray := ⟨⟨#[]⟩⟩
    obtain ⟨A, cap, l, rfl, ht, hq, hle, hmax, hby⟩ := wide_of (u := c5) (B := B) (fun s : ByteArray => [Value.string s]) _ Tryz.underlying22 cStr (by decide) (fun _ => rfl) (fun n cs y => txt_el n cs y) h5 w5
    rw [bStr] at hby
    exact ⟨⟨⟨a0, a1, a2, a3, a4, l⟩, A, cap⟩, rfl, ⟨s1, s2, s4, tbl_rd ht, Nat.le_trans hle hmax, hle, hq⟩, hby⟩

set_option maxRecDepth 100000 in
theorem sys_of {base : Nat} (v : Value) (d : DataW H) (p : List MemPlace) (k : DataW.Trod enc Tryz.prog W 0 (fun _ => true) true 27 v d p) (o : Value.okWide Tryz.prog W .any base 27 v) (hw : ∀ m ∈ d.weights Tryz.prog 27, m ≤ B) :
    ∃ s : MS, v = s.val ∧ SysM W s ∧ ∀ x ∈ s.cs, x.c.args.length * 16 ≤ B := by
  obtain ⟨cs, rfl, hcs⟩ := okWide_struct uSy o
  have h3 : cs.size = 3 := hcs.trans cSy
  obtain ⟨l⟩ := cs
  match l, h3 with
  | [c0, c1, c2], _ =>
    obtain ⟨fuel, hk⟩ := k
    obtain ⟨ys, m, _, hx, _, hl2, hf⟩ := DataW.trod_struct uSy hk
    have hd : d = .agg (ys.map (·.1)) := congrArg Prod.fst hx
    rw [hd] at hw
    obtain ⟨y0, h0, w0⟩ := fld fSy hl2 hf uSy hw 0 23 0 rfl
    obtain ⟨y1, h1, w1⟩ := fld fSy hl2 hf uSy hw 1 24 1 rfl
    obtain ⟨y2, h2, w2⟩ := fld fSy hl2 hf uSy hw 2 25 2 rfl
    rw [cOs] at h0
    rw [cFs] at h1
    rw [cCs] at h2
    have i0 : Inhabited MO := ⟨⟨⟨⟨#[]⟩, ⟨#[]⟩, []⟩, none, 0⟩⟩
    have i1 : Inhabited SF := ⟨⟨⟨#[]⟩, ⟨#[]⟩, ⟨#[]⟩⟩⟩
    have i2 : Inhabited MC := ⟨⟨⟨0, ⟨#[]⟩, ⟨#[]⟩, 0, ⟨#[]⟩, []⟩, none, 0⟩⟩
    obtain ⟨A0, cap0, l0, rfl, t0, q0, le0, m0, _⟩ := wide_of (u := c0) (B := B) MO.row _ Tryz.underlying23 cOb (by decide) (fun _ => rfl) (fun n cs y => obj_el n cs y) h0 w0
    obtain ⟨A1, cap1, l1, rfl, t1, q1, le1, m1, _⟩ := wide_of (u := c1) (B := B) fnRow _ Tryz.underlying24 cFn (by decide) (fun _ => rfl) (fun n cs y => fn_el n cs y) h1 w1
    obtain ⟨A2, cap2, l2, rfl, t2, q2, le2, m2, _⟩ := wide_of (u := c2) (B := B) MC.row _ Tryz.underlying25 cCo (by decide) (fun _ => rfl) (fun n cs y => con_el n cs y) h2 w2
    exact ⟨⟨A0, cap0, l0, A1, cap1, l1, A2, cap2, l2⟩, rfl, ⟨t0, t1, t2, q0, q1, fun x hx => (q2 x hx).1, Nat.le_trans le0 m0, Nat.le_trans le1 m1, Nat.le_trans le2 m2⟩, fun x hx => (q2 x hx).2⟩
end
end Go.Proofs.YtdmmkjijgoiecaaGreatDoor.sy
