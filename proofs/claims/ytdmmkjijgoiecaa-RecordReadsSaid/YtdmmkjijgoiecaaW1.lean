import Derived.Test.YtdmmkjijgoiecaaLReBase
import Derived.Handy
set_option linter.all false
/-
  record: a summary, plain: its numbers and texts in order; in memory; where they go, by contract.
-/
namespace Go.Proofs.Ytdmmkjijgoiecaa.re
open Go.RowKit Go.Shelf Go.Proofs.Ytdmmkjijgoiecaa.mem Go.Proofs.Ytdmmkjijgoiecaa.sy

inductive Ev where
  | n (k : Int)
  | t (s : ByteArray)

structure SU where
  name : ByteArray
  gives : List ByteArray
  wants : List ByteArray
  keeps : List ByteArray
  sys : SS

def evL (l : List ByteArray) : List Ev := .n l.length :: l.map Ev.t
def evM (m : Mk) : List Ev := [.n m.at_, .t m.tag]
def evMs (l : List Mk) : List Ev := .n l.length :: l.flatMap evM
def evO (o : SO) : List Ev := .t o.name :: .t o.kinds :: evMs o.marks
def evOs (l : List SO) : List Ev := .n l.length :: l.flatMap evO
def evF (f : SF) : List Ev := [.t f.name, .t f.kinds, .t f.ret]
def evFs (l : List SF) : List Ev := .n l.length :: l.flatMap evF
def evC (c : SC) : List Ev := .n c.op :: .t c.a :: .t c.b :: .n c.k :: .t c.tag :: evL c.args
def evCs (l : List SC) : List Ev := .n l.length :: l.flatMap evC
def evSU (s : SU) : List Ev := .t s.name :: (evL s.gives ++ (evL s.wants ++ (evL s.keeps ++ (evOs s.sys.objs ++ (evFs s.sys.fns ++ evCs s.sys.cons)))))

/-- a summary as it lies -/
structure MU where
  name : ByteArray
  gA : Option Addr
  gc : Nat
  gives : List ByteArray
  wA : Option Addr
  wc : Nat
  wants : List ByteArray
  kA : Option Addr
  kc : Nat
  keeps : List ByteArray
  s : MS
def MU.su (u : MU) : SU := ⟨u.name, u.gives, u.wants, u.keeps, u.s.sys⟩
def MU.row (u : MU) : Array Value := #[.string u.name, .slice u.gA u.gives.length u.gc, .slice u.wA u.wants.length u.wc, .slice u.kA u.keeps.length u.kc, .slice u.s.oA u.s.os.length u.s.oc, .slice u.s.fA u.s.fs.length u.s.fc, .slice u.s.cA u.s.cs.length u.s.cc]
def MU.val (u : MU) : Value := .agg u.row
structure SumM (w : World) (u : MU) : Prop where
  gr : Rd w u.gA (u.gives.map Value.string)
  wr : Rd w u.wA (u.wants.map Value.string)
  kr : Rd w u.kA (u.keeps.map Value.string)
  sr : SysM w u.s
theorem SumM.below {w w' : World} {u : MU} (h : SumM w u) (hb : Below w.heap.size w w') : SumM w' u := ⟨h.gr.below hb, h.wr.below hb, h.kr.below hb, h.sr.below hb⟩

def MX : Nat := 15000000

/-- a step: what stands behind, what was written, where it lies now -/
structure St (I : List Nat → List Ev → World → Prop) (w : World) (F F' : List Nat) (evs : List Ev) (w' : World) : Prop where
  i : I F' evs w'
  fr : Fr F w w'
  nw : ∀ x ∈ F', x ∈ F ∨ w.heap.size ≤ x

def SPost (I : List Nat → List Ev → World → Prop) (F : List Nat) (evs : List Ev) (w : World) (e : Ending) (w' : World) : Prop := e = .returned (.tuple #[]) ∧ ∃ F', St I w F F' evs w'

/-- where numbers and texts go -/
structure Sink (fn ft : FuncId) (g : Nat) (w0 : World) (I : List Nat → List Ev → World → Prop) : Prop where
  lt : ∀ {F evs w}, I F evs w → ∀ x ∈ F, x < w.heap.size
  ge : ∀ {F evs w}, I F evs w → ∀ x ∈ F, w0.heap.size ≤ x
  be : ∀ {F evs w}, I F evs w → Below w0.heap.size w0 w
  kept : ∀ {F evs w w' G}, I F evs w → Fr G w w' → (∀ x ∈ F, x ∉ G) → (∀ x ∈ G, w0.heap.size ≤ x) → I F evs w'
  num : ∀ {F evs w} (k : Int), I F evs w → evs.length ≤ MX → Calls Try.prog fn #[.pointer (some ⟨g, 0, none⟩), .int .i64 k] w (SPost I F (evs ++ [.n k]) w)
  txt : ∀ {F evs w} (s : ByteArray), I F evs w → evs.length ≤ MX → Calls Try.prog ft #[.pointer (some ⟨g, 0, none⟩), .string s] w (SPost I F (evs ++ [.t s]) w)

section
variable {fn ft : FuncId} {g : Nat} {w0 : World} {I : List Nat → List Ev → World → Prop}

theorem St.start {w : World} {F : List Nat} {evs : List Ev} (h : I F evs w) : St I w F F evs w := ⟨h, Fr.refl _ _, fun x hx => Or.inl hx⟩

theorem St.trans {w w1 w2 : World} {F F1 F2 : List Nat} {e1 e2 : List Ev} (h : St I w F F1 e1 w1) (k : St I w1 F1 F2 e2 w2) : St I w F F2 e2 w2 :=
  ⟨k.i, h.fr.trans k.fr (fun g hg => Or.inl hg) (fun g hg => h.nw g hg), fun x hx => by
    rcases k.nw x hx with h1 | h1
    · exact h.nw x h1
    · exact Or.inr (Nat.le_trans h.fr.size h1)⟩

theorem Sink.alloc (S : Sink fn ft g w0 I) {w : World} {F : List Nat} {evs : List Ev} (h : I F evs w) (o : Obj) : I F evs (w.alloc o) := S.kept h ((Fr.refl [] w).alloc o) (by simp) (by simp)
theorem Sink.drew (S : Sink fn ft g w0 I) {w : World} {F : List Nat} {evs : List Ev} (h : I F evs w) : I F evs w.drew := S.kept h ((Fr.refl [] w).drew) (by simp) (by simp)
theorem Sink.drewN (S : Sink fn ft g w0 I) {w : World} {F : List Nat} {evs : List Ev} (h : I F evs w) (n : Nat) : I F evs (w.drewN n) := S.kept h ((Fr.refl [] w).drewN n) (by simp) (by simp)

theorem St.alloc (S : Sink fn ft g w0 I) {w w1 : World} {F F1 : List Nat} {e1 : List Ev} (h : St I w F F1 e1 w1) (o : Obj) : St I w F F1 e1 (w1.alloc o) := ⟨S.alloc h.i o, h.fr.alloc o, h.nw⟩
theorem St.drew (S : Sink fn ft g w0 I) {w w1 : World} {F F1 : List Nat} {e1 : List Ev} (h : St I w F F1 e1 w1) : St I w F F1 e1 w1.drew := ⟨S.drew h.i, h.fr.drew, h.nw⟩
theorem St.drewN (S : Sink fn ft g w0 I) {w w1 : World} {F F1 : List Nat} {e1 : List Ev} (h : St I w F F1 e1 w1) (n : Nat) : St I w F F1 e1 (w1.drewN n) := ⟨S.drewN h.i n, h.fr.drewN n, h.nw⟩

/-- a step behind a block of one's own -/
theorem St.from_alloc {w w1 : World} {o : Obj} {F F1 : List Nat} {e1 : List Ev} (h : St I (w.alloc o) F F1 e1 w1) : St I w F F1 e1 w1 :=
  ⟨h.i, ((Fr.refl [] w).alloc o).trans h.fr (by simp) (fun g hg => Or.inl hg), fun x hx => by
    rcases h.nw x hx with h1 | h1
    · exact Or.inl h1
    · exact Or.inr (Nat.le_trans ((Fr.refl [] w).alloc o).size h1)⟩

/-- what lay below at the beginning lies there still -/
theorem Sink.cell (S : Sink fn ft g w0 I) {w : World} {F : List Nat} {evs : List Ev} (h : I F evs w) {p : Addr} (hp : p.block < w0.heap.size) {v : Value} (hv : w0.cell? p = some v) : w.cell? p = some v := ((S.be h).cell hp).trans hv

theorem St.box {w w' : World} {F F' : List Nat} {evs : List Ev} (h : St I w F F' evs w') {b : Nat} {t : TypeId} {cs : Array Value} (hb : Box w b t cs) (hn : b ∉ F) : Box w' b t cs := hb.kept h.fr hn

theorem St.nin {w w' : World} {F F' : List Nat} {evs : List Ev} (h : St I w F F' evs w') {c : Nat} (hn : c ∉ F) (hl : c < w.heap.size) : c ∉ F' := fun hx => by
  rcases h.nw c hx with h1 | h1
  · exact hn h1
  · omega
end

theorem flat_ge {α β : Type} (f : α → List β) (hf : ∀ x, 1 ≤ (f x).length) : ∀ l : List α, l.length ≤ (l.flatMap f).length
  | [] => by simp
  | x :: l => by
    rw [List.flatMap_cons, List.length_append, List.length_cons]
    have := flat_ge f hf l
    have := hf x
    omega

theorem flat_at {α β : Type} (f : α → List β) (l : List α) (k : Nat) (h : k < l.length) : ((l.take k).flatMap f).length + (f l[k]).length ≤ (l.flatMap f).length := by
  have e : l.flatMap f = (l.take k).flatMap f ++ (f l[k] ++ (l.drop (k + 1)).flatMap f) := by
    conv => lhs; rw [← List.take_append_drop k l, List.drop_eq_getElem_cons h]
    rw [List.flatMap_append, List.flatMap_cons]
  rw [e, List.length_append, List.length_append]
  omega

theorem flat_next {α β : Type} (f : α → List β) (l : List α) (k : Nat) (h : k < l.length) : (l.take (k + 1)).flatMap f = (l.take k).flatMap f ++ f l[k] := by
  rw [(List.take_append_getElem h).symm, List.flatMap_append, List.flatMap_cons, List.flatMap_nil, List.append_nil]
end Go.Proofs.Ytdmmkjijgoiecaa.re

/-
  record: the two places where numbers and texts go: a list of texts; a writer with a pool.
-/
namespace Go.Proofs.Ytdmmkjijgoiecaa.re
open Go.RowKit Go.Shelf Go.Proofs.Ytdmmkjijgoiecaa.mem Go.Proofs.Ytdmmkjijgoiecaa.sy Go.Proofs.Ytdmmkjijgoiecaa.vx Go.Proofs.Ytdmmkjijgoiecaa.vr Go.Proofs.Ytdmmkjijgoiecaa.po Go.Proofs.Ytdmmkjijgoiecaa.inn

theorem below_fr {w0 w w' : World} {G : List Nat} (h : Below w0.heap.size w0 w) (f : Fr G w w') (hG : ∀ x ∈ G, w0.heap.size ≤ x) : Below w0.heap.size w0 w' := h.trans (f.below hG h.size)

theorem info_s : (Try.prog.info? 9).map (fun i => (i.zero, i.size, i.bytes)) = some (some (.string ⟨#[]⟩), 1, 16) := by kernel_rfl
theorem info_sp : ∃ i, Try.prog.info? 9 = some i ∧ i.zero = some (.string ⟨#[]⟩) ∧ i.size = 1 ∧ i.bytes = 16 := by
  have h := info_s
  rcases hi : Try.prog.info? 9 with _ | i
  · rw [hi] at h; cases h
  · rw [hi] at h
    simp only [Option.map_some, Option.some.injEq, Prod.mk.injEq] at h
    exact ⟨i, rfl, h.1, h.2.1, h.2.2⟩

/-- the texts alone -/
def txE : List Ev → List ByteArray
  | [] => []
  | .n _ :: l => txE l
  | .t s :: l => s :: txE l
theorem txE_app : ∀ (a b : List Ev), txE (a ++ b) = txE a ++ txE b
  | [], b => rfl
  | .n _ :: a, b => by show txE (a ++ b) = _; exact txE_app a b
  | .t s :: a, b => by show s :: txE (a ++ b) = s :: txE a ++ txE b; rw [txE_app a b]; rfl
theorem txE_len : ∀ a : List Ev, (txE a).length ≤ a.length
  | [] => Nat.le_refl _
  | .n _ :: a => by have := txE_len a; show (txE a).length ≤ a.length + 1; omega
  | .t s :: a => by have := txE_len a; show (txE a).length + 1 ≤ a.length + 1; omega

structure TS (w0 : World) (g : Nat) (F : List Nat) (l : List ByteArray) (w : World) : Prop where
  be : Below w0.heap.size w0 w
  ge : ∀ x ∈ F, w0.heap.size ≤ x
  x : ∃ A cap, F = g :: blk A ∧ Box w g 65 #[.slice A l.length cap] ∧ Seg w 9 A cap (l.map Value.string)

theorem TS.kept {w0 : World} {g : Nat} {F G : List Nat} {l : List ByteArray} {w w' : World} (h : TS w0 g F l w) (f : Fr G w w') (hF : ∀ x ∈ F, x ∉ G) (hG : ∀ x ∈ G, w0.heap.size ≤ x) : TS w0 g F l w' := by
  obtain ⟨A, cap, rfl, hb, hs⟩ := h.x
  exact ⟨below_fr h.be f hG, h.ge, A, cap, rfl, hb.kept f (hF g (by simp)), hs.kept f (fun x hx => hF x (by simp [hx]))⟩

def IT (w0 : World) (g : Nat) (F : List Nat) (evs : List Ev) (w : World) : Prop := TS w0 g F (txE evs) w

set_option maxRecDepth 100000 in
theorem t_num {w0 : World} {g : Nat} {F : List Nat} {evs : List Ev} {w : World} (k : Int) (h : IT w0 g F evs w) :
    Calls Try.prog 121 #[.pointer (some ⟨g, 0, none⟩), .int .i64 k] w (SPost (IT w0 g) F (evs ++ [.n k]) w) := by
  have H : Hid (IT w0 g F (evs ++ [.n k]) w) := Lib.hid (by unfold IT at h ⊢; rw [txE_app]; show TS w0 g F (txE evs ++ []) w; rw [List.append_nil]; exact h)
  clear h
  go_enter Try.func121, Try.ntmps121
  go_wp2_with fail
  go_end0
  exact ⟨rfl, F, ⟨H.out, Fr.refl _ _, fun x hx => Or.inl hx⟩⟩

set_option maxRecDepth 100000 in
theorem t_txt {w0 : World} {g : Nat} {F : List Nat} {evs : List Ev} {w : World} (s : ByteArray) (h : IT w0 g F evs w) (hl : evs.length ≤ MX) :
    Calls Try.prog 122 #[.pointer (some ⟨g, 0, none⟩), .string s] w (SPost (IT w0 g) F (evs ++ [.t s]) w) := by
  have hlen := txE_len evs
  have hl2 : (txE evs).length ≤ 15000000 := by unfold MX at hl; omega
  unfold SPost
  have hx : Hid (∀ F' w', IT w0 g F' (evs ++ [.t s]) w' ↔ TS w0 g F' (txE evs ++ [s]) w') := Lib.hid (fun F' w' => by unfold IT; rw [txE_app]; exact Iff.rfl)
  unfold IT at h
  generalize txE evs = l at *
  obtain ⟨hbe, hge, A, cap, rfl, hb, hs⟩ := h
  have hgA : g ∉ blk A := hs.ne_box hb (by decide)
  have c0 : w.cell? ⟨g, 0, none⟩ = some (.slice A l.length cap) := hb.cell 0
  have hbl : g < w.heap.size := hb.lt
  have hg0 := hge g (by simp)
  obtain ⟨i0, hi0, hz0, hz1, hz2⟩ := info_sp
  have Hi := Lib.hid hi0
  have Hz0 := Lib.hid hz0
  have Hz1 := Lib.hid hz1
  have Hz2 := Lib.hid hz2
  have HS := Lib.hid hs
  have HBe := Lib.hid hbe
  have HG := Lib.hid hge
  have HB := Lib.hid hb
  clear hs hi0 hz0 hz1 hz2 hbe hge hb hlen hl
  go_enter Try.func122, Try.ntmps122
  go_wp2_with (at_builtin; refine wpList_push rfl _ _ _ rfl (HS.out.alloc _) (by rw [List.length_map]) Try.underlying22 Hi.out Hz0.out Hz1.out Hz2.out rfl rfl rfl (new_cell _ _ _) rfl (by omega) (by omega) ?_; intro A3 cap3 w3 hs3 f3 hf3; have HB3 : Hid (Box w3 g 65 #[.slice A l.length cap]) := Lib.hid ((HB.out.kept ((Fr.refl [] w).alloc _) (by simp)).kept f3 hgA); have f3' := HB3.out.free 0; have c3' : w3.cell? ⟨g, 0, none⟩ = some (.slice A l.length cap) := HB3.out.cell 0)
  go_end0
  have fa : Fr (g :: blk A) w w3 := ((Fr.refl [] w).alloc (.cells #[.string s] 9)).trans f3 (by simp) (fun x hx => Or.inl (by simp [hx]))
  have fb : Fr (g :: blk A) w (w3.setCell ⟨g, 0, none⟩ (.slice A3 (l.length + 1) cap3)) := fa.setCell (p := ⟨g, 0, none⟩) (Or.inl (by simp)) _
  have hn3 : ∀ x ∈ blk A3, x ∈ blk A ∨ w.heap.size < x := fun x hx => by
    rcases hf3 with e | e
    · rw [e] at hx; exact Or.inl hx
    · rw [e, List.mem_singleton] at hx
      exact Or.inr (by rw [hx]; show w.heap.size < (w.heap.push _).size; rw [Array.size_push]; omega)
  have hnw : ∀ x ∈ g :: blk A3, x ∈ g :: blk A ∨ w.heap.size ≤ x := fun x hx => by
    rcases List.mem_cons.1 hx with e | e
    · exact Or.inl (by simp [e])
    · rcases hn3 x e with h1 | h1
      · exact Or.inl (by simp [h1])
      · exact Or.inr (by omega)
  have hg3 : g ∉ blk A3 := fun hx => by
    rcases hn3 g hx with h1 | h1
    · exact hgA h1
    · omega
  refine ⟨rfl, g :: blk A3, ⟨(hx.out _ _).2 ⟨below_fr HBe.out fb HG.out, fun x hx => ?_, A3, cap3, rfl, ?_, ?_⟩, fb, hnw⟩⟩
  · rcases hnw x hx with h1 | h1
    · exact HG.out x h1
    · exact Nat.le_trans HBe.out.size h1
  · have := HB3.out.put 0 (.slice A3 (l.length + 1) cap3)
    rw [List.length_append]
    exact this
  · rw [List.map_append]
    exact hs3.kept ((Fr.refl [g] w3).setCell (p := ⟨g, 0, none⟩) (Or.inl (by simp)) _) (fun x hx h1 => by rw [List.mem_singleton] at h1; rw [h1] at hx; exact hg3 hx)

theorem sink_t (w0 : World) (g : Nat) : Sink 121 122 g w0 (IT w0 g) where
  lt := fun {F evs w} h x hx => by
    obtain ⟨A, cap, rfl, hb, hs⟩ := h.x
    rcases List.mem_cons.1 hx with e | e
    · rw [e]; exact hb.lt
    · exact hs.lt x e
  ge := fun h => h.ge
  be := fun h => h.be
  kept := fun h f h1 h2 => TS.kept h f h1 h2
  num := fun k h _ => t_num k h
  txt := fun s h hl => t_txt s h hl
end Go.Proofs.Ytdmmkjijgoiecaa.re

/-
  record: the writer with a pool.
-/
namespace Go.Proofs.Ytdmmkjijgoiecaa.re
open Go.RowKit Go.Shelf Go.Proofs.Ytdmmkjijgoiecaa.mem Go.Proofs.Ytdmmkjijgoiecaa.sy Go.Proofs.Ytdmmkjijgoiecaa.vx Go.Proofs.Ytdmmkjijgoiecaa.vr Go.Proofs.Ytdmmkjijgoiecaa.po Go.Proofs.Ytdmmkjijgoiecaa.inn

abbrev tx (s : ByteArray) : List UInt8 := s.data.toList

/-- what a writer says, event by event -/
def errT (m : List (List UInt8)) (st : List UInt8 × Int) (s : ByteArray) : List UInt8 × Int := if st.2 = 0 ∧ tx s ∉ m then (st.1, 7) else st
def putW (m : List (List UInt8)) (st : List UInt8 × Int) (s : ByteArray) : List UInt8 × Int := putN (errT m st s) (if tx s ∈ m then (m.idxOf (tx s) : Nat) else 0 : Nat)
def stepE (m : List (List UInt8)) (st : List UInt8 × Int) : Ev → List UInt8 × Int
  | .n k => putN st k
  | .t s => putW m st s
def foldE (m : List (List UInt8)) (evs : List Ev) : List UInt8 × Int := evs.foldl (stepE m) ([], 0)

theorem putN_len (st : List UInt8 × Int) (k : Int) : (putN st k).1.length ≤ st.1.length + 5 := by
  unfold putN
  split
  · omega
  · split
    · dsimp only; omega
    · rw [List.length_append]
      have := nb_len k.toNat (by omega)
      omega
theorem errT_len (m : List (List UInt8)) (st : List UInt8 × Int) (s : ByteArray) : (errT m st s).1.length = st.1.length := by
  unfold errT
  split <;> rfl
theorem stepE_len (m : List (List UInt8)) (st : List UInt8 × Int) (e : Ev) : (stepE m st e).1.length ≤ st.1.length + 5 := by
  cases e with
  | n k => exact putN_len st k
  | t s =>
    show (putN _ _).1.length ≤ _
    have := putN_len (errT m st s) (if tx s ∈ m then (m.idxOf (tx s) : Nat) else 0 : Nat)
    rw [errT_len] at this
    exact this
theorem foldE_snoc (m : List (List UInt8)) (evs : List Ev) (e : Ev) : foldE m (evs ++ [e]) = stepE m (foldE m evs) e := by
  unfold foldE
  rw [List.foldl_append]
  rfl
theorem foldl_len (m : List (List UInt8)) : ∀ (evs : List Ev) (st : List UInt8 × Int), (evs.foldl (stepE m) st).1.length ≤ st.1.length + 5 * evs.length
  | [], st => by simp
  | e :: l, st => by
    have h1 := foldl_len m l (stepE m st e)
    have h2 := stepE_len m st e
    rw [List.foldl_cons, List.length_cons]
    omega
theorem foldE_len (m : List (List UInt8)) (evs : List Ev) : (foldE m evs).1.length ≤ 5 * evs.length := by
  have h := foldl_len m evs ([], 0)
  unfold foldE
  simpa using h

structure WS (w0 : World) (g pb : Nat) (F : List Nat) (st : List UInt8 × Int) (w : World) : Prop where
  be : Below w0.heap.size w0 w
  ge : ∀ x ∈ F, w0.heap.size ≤ x
  x : ∃ A cap, F = g :: blk A ∧ WX 59 [.pointer (some ⟨pb, 0, none⟩), .int .i64 st.2] w g A cap (st.1, 0)

theorem WS.kept {w0 : World} {g pb : Nat} {F G : List Nat} {st : List UInt8 × Int} {w w' : World} (h : WS w0 g pb F st w) (f : Fr G w w') (hF : ∀ x ∈ F, x ∉ G) (hG : ∀ x ∈ G, w0.heap.size ≤ x) : WS w0 g pb F st w' := by
  obtain ⟨A, cap, rfl, hx⟩ := h.x
  exact ⟨below_fr h.be f hG, h.ge, A, cap, rfl, hx.kept f (hF g (by simp)) (fun x hx => hF x (by simp [hx]))⟩

theorem WS.lt {w0 : World} {g pb : Nat} {F : List Nat} {st : List UInt8 × Int} {w : World} (h : WS w0 g pb F st w) : ∀ x ∈ F, x < w.heap.size := fun x hx => by
  obtain ⟨A, cap, rfl, hw⟩ := h.x
  rcases List.mem_cons.1 hx with e | e
  · rw [e]; exact hw.box.lt
  · exact hw.seg.lt x e

theorem WS.cells {w0 : World} {g pb : Nat} {F : List Nat} {st : List UInt8 × Int} {w : World} (h : WS w0 g pb F st w) : w.cell? ⟨g, 2, none⟩ = some (.pointer (some ⟨pb, 0, none⟩)) ∧ w.cell? ⟨g, 3, none⟩ = some (.int .i64 st.2) ∧ w.frozen? ⟨g, 3, none⟩ = false := by
  obtain ⟨A, cap, rfl, hw⟩ := h.x
  exact ⟨hw.box.cell 2, hw.box.cell 3, hw.box.free 3⟩

theorem WS.err {w0 : World} {g pb : Nat} {F : List Nat} {st : List UInt8 × Int} {w : World} (h : WS w0 g pb F st w) (e : Int) : WS w0 g pb F (st.1, e) (w.setCell ⟨g, 3, none⟩ (.int .i64 e)) ∧ Fr F w (w.setCell ⟨g, 3, none⟩ (.int .i64 e)) := by
  obtain ⟨A, cap, rfl, hw⟩ := h.x
  have f1 : Fr [g] w (w.setCell ⟨g, 3, none⟩ (.int .i64 e)) := (Fr.refl [g] w).setCell (p := ⟨g, 3, none⟩) (Or.inl (by simp)) _
  have f2 : Fr (g :: blk A) w (w.setCell ⟨g, 3, none⟩ (.int .i64 e)) := (Fr.refl (g :: blk A) w).setCell (p := ⟨g, 3, none⟩) (Or.inl (by simp)) _
  refine ⟨⟨below_fr h.be f2 h.ge, h.ge, A, cap, rfl, ?_, ?_, hw.ne⟩, f2⟩
  · have := hw.box.put 3 (.int .i64 e)
    exact this
  · exact hw.seg.kept f1 (fun x hx h1 => by rw [List.mem_singleton] at h1; rw [h1] at hx; exact hw.nf hx)

def WP (w0 : World) (g pb : Nat) (F : List Nat) (st : List UInt8 × Int) (w : World) (e : Ending) (w' : World) : Prop := e = .returned (.tuple #[]) ∧ ∃ F', WS w0 g pb F' st w' ∧ Fr F w w' ∧ ∀ x ∈ F', x ∈ F ∨ w.heap.size ≤ x

set_option maxRecDepth 100000 in
theorem w_num {w0 : World} {g pb : Nat} {F : List Nat} {st : List UInt8 × Int} {w : World} (k : Int) (h : WS w0 g pb F st w) (hl : st.1.length ≤ 100000000) :
    Calls Try.prog 114 #[.pointer (some ⟨g, 0, none⟩), .int .i64 k] w (WP w0 g pb F (putN st k) w) := by
  obtain ⟨c2, c3, f3⟩ := h.cells
  have H := Lib.hid h
  obtain ⟨S, E⟩ := st
  dsimp only at c3 hl
  unfold putN
  dsimp only
  clear h
  by_cases hE : E = 0
  · subst hE
    rw [if_neg (by simp)]
    by_cases hk : k < 0 ∨ 268435456 < k
    · rw [if_pos hk]
      have HX := Lib.hid (H.out.err 2)
      have hn : Hid (∀ x ∈ F, x ∈ F ∨ w.heap.size ≤ x) := Lib.hid (fun x hx => Or.inl hx)
      have c3' : (w.setCell ⟨g, 3, none⟩ (.int .i64 2)).cell? ⟨g, 3, none⟩ = some (.int .i64 2) := HX.out.1.cells.2.1
      by_cases h1 : k < 0
      · have d1 : decide (k < 0) = true := decide_eq_true h1
        go_enter Try.func114, Try.ntmps114
        go_wp2_with fail
        go_end0
        exact ⟨rfl, F, HX.out.1, HX.out.2, hn.out⟩
      · have d1 : decide (k < 0) = false := decide_eq_false h1
        have d2 : decide (268435456 < k) = true := decide_eq_true (by omega)
        go_enter Try.func114, Try.ntmps114
        go_wp2_with fail
        go_end0
        exact ⟨rfl, F, HX.out.1, HX.out.2, hn.out⟩
    · rw [if_neg hk]
      have d1 : decide (k < 0) = false := decide_eq_false (by omega)
      have d2 : decide (268435456 < k) = false := decide_eq_false (by omega)
      obtain ⟨A, cap, rfl, hw⟩ := H.out.x
      have K := Lib.hid (wn_any w g A cap (S, 0) k hw hl)
      have hp : Hid (putN (S, 0) k = (S ++ nb k.toNat, 0)) := Lib.hid (by unfold putN; rw [if_neg (by simp), if_neg hk])
      rw [hp.out] at K
      clear hw hk hp
      go_enter Try.func114, Try.ntmps114
      go_wp2_with fail
      refine K.out.mono ?_
      rintro e w1 ⟨rfl, A1, cap1, x1, fr1, nw1⟩
      have X1 := Lib.hid x1
      have FR1 := Lib.hid fr1
      have NW1 := Lib.hid nw1
      clear x1 fr1 nw1 K
      go_wp2_with fail
      go_end0
      refine ⟨rfl, g :: blk A1, ⟨below_fr H.out.be FR1.out H.out.ge, fun x hx => ?_, A1, cap1, rfl, X1.out⟩, FR1.out, fun x hx => ?_⟩
      · rcases List.mem_cons.1 hx with e | e
        · exact H.out.ge x (by simp [e])
        · rcases NW1.out x e with h1 | h1
          · exact H.out.ge x (by simp [h1])
          · exact Nat.le_trans H.out.be.size h1
      · rcases List.mem_cons.1 hx with e | e
        · exact Or.inl (by simp [e])
        · rcases NW1.out x e with h1 | h1
          · exact Or.inl (by simp [h1])
          · exact Or.inr h1
  · rw [if_pos hE]
    have d0 : (E == 0) = false := by simpa using hE
    have hn : Hid (∀ x ∈ F, x ∈ F ∨ w.heap.size ≤ x) := Lib.hid (fun x hx => Or.inl hx)
    go_enter Try.func114, Try.ntmps114
    go_wp2_with fail
    go_end0
    exact ⟨rfl, F, H.out, Fr.refl _ _, hn.out⟩

set_option maxRecDepth 100000 in
theorem w_txt {w0 : World} {g pb : Nat} {pA : Option Addr} {pc : Nat} {m : List (List UInt8)} (hp : Pl w0 pb pA pc m) (hs : m.Pairwise (fun a b => a < b)) (hm : m.length ≤ 1000000) {F : List Nat} {st : List UInt8 × Int} {w : World} (s : ByteArray) (h : WS w0 g pb F st w) (hl : st.1.length ≤ 100000000) :
    Calls Try.prog 115 #[.pointer (some ⟨g, 0, none⟩), .string s] w (WP w0 g pb F (putW m st s) w) := by
  obtain ⟨c2, c3, f3⟩ := h.cells
  have KP := Lib.hid (pnum_any w pb pA pc m (tx s) (hp.below h.be) hs hm)
  have H := Lib.hid h
  have HG := Lib.hid h.ge
  unfold putW
  obtain ⟨ix, hix⟩ : ∃ i, Hid (i = if tx s ∈ m then m.idxOf (tx s) else 0) := ⟨_, Lib.hid rfl⟩
  obtain ⟨T, hT⟩ : ∃ T, Hid (T = errT m st s) := ⟨_, Lib.hid rfl⟩
  have e1 : Hid (((if tx s ∈ m then (m.idxOf (tx s) : Nat) else 0 : Nat) : Int) = (ix : Int)) := Lib.hid (by rw [hix.out])
  rw [← hT.out]
  have hTl : T.1.length ≤ 100000000 := by rw [hT.out, errT_len]; exact hl
  unfold pnV at KP
  rw [← hix.out] at KP ⊢
  have es : encStr (tx s) = .string s := rfl
  rw [es] at KP
  have hkeep : Hid (∀ w1, Below w.heap.size w w1 → WS w0 g pb F st w1 ∧ Fr [] w w1) := Lib.hid (fun w1 b => ⟨H.out.kept (Fr.of_below b []) (by simp) (by simp), Fr.of_below b []⟩)
  have KN := Lib.hid (fun (w1 : World) (x : WS w0 g pb F T w1) => w_num (ix : Int) x hTl)
  have hfin : Hid (∀ w1 w2 w3 F', Fr [] w w1 → Fr F w1 w2 → WS w0 g pb F' (putN T ix) w3 → Fr F w2 w3 → (∀ x ∈ F', x ∈ F ∨ w2.heap.size ≤ x) → WP w0 g pb F (putN T ix) w (.returned (.tuple #[])) w3) := Lib.hid (fun w1 w2 w3 F' h1 h2 h3 h4 h5 => by
    have a1 : Fr F w w2 := h1.trans h2 (by simp) (fun x hx => Or.inl hx)
    refine ⟨rfl, F', h3, a1.trans h4 (fun x hx => Or.inl hx) (fun x hx => Or.inl hx), fun x hx => ?_⟩
    rcases h5 x hx with e | e
    · exact Or.inl e
    · exact Or.inr (Nat.le_trans a1.size e))
  unfold WP at KN
  clear h hp hs hix e1
  by_cases hE : st.2 = 0
  · rw [hE] at c3
    by_cases hx : tx s ∈ m
    · have eT : T = st := by rw [hT.out]; unfold errT; rw [if_neg (fun h => h.2 hx)]
      rw [decide_eq_true hx] at KP
      clear hx hT
      go_enter Try.func115, Try.ntmps115
      go_wp2_with fail
      refine KP.out.mono ?_
      rintro e w1 ⟨rfl, b1⟩
      obtain ⟨x1, y1⟩ := hkeep.out _ b1
      obtain ⟨z2, z3, z4⟩ := x1.cells
      have Y1 := Lib.hid y1
      rw [hE] at z3
      have K2 := Lib.hid (KN.out w1 (by rw [eT]; exact x1))
      clear x1 y1 b1 KN hkeep KP c2 c3 f3 z4
      go_wp2_with fail
      refine K2.out.mono ?_
      rintro e w3 ⟨rfl, F3, x3, f3, n3⟩
      have X3 := Lib.hid x3
      have F3' := Lib.hid f3
      have N3 := Lib.hid n3
      clear x3 f3 n3
      go_wp2_with fail
      go_end0
      exact hfin.out w1 w1 w3 F3 Y1.out (Fr.refl _ _) X3.out F3'.out N3.out
    · have eT : T = (st.1, 7) := by rw [hT.out]; unfold errT; rw [if_pos ⟨hE, hx⟩]
      rw [decide_eq_false hx] at KP
      clear hx hT
      go_enter Try.func115, Try.ntmps115
      go_wp2_with fail
      refine KP.out.mono ?_
      rintro e w1 ⟨rfl, b1⟩
      obtain ⟨x1, y1⟩ := hkeep.out _ b1
      obtain ⟨z2, z3, z4⟩ := x1.cells
      have Y1 := Lib.hid y1
      rw [hE] at z3
      have X2 := Lib.hid (x1.err 7)
      have K2 := Lib.hid (KN.out _ (by rw [eT]; exact X2.out.1))
      clear x1 y1 b1 KN hkeep KP c2 c3 f3
      go_wp2_with fail
      refine K2.out.mono ?_
      rintro e w3 ⟨rfl, F3, x3, f3, n3⟩
      have X3 := Lib.hid x3
      have F3' := Lib.hid f3
      have N3 := Lib.hid n3
      clear x3 f3 n3
      go_wp2_with fail
      go_end0
      exact hfin.out w1 _ w3 F3 Y1.out X2.out.2 X3.out F3'.out N3.out
  · have eT : T = st := by rw [hT.out]; unfold errT; rw [if_neg (fun h => hE h.1)]
    have d0 : (st.2 == 0) = false := by simpa using hE
    obtain ⟨bx, hbx⟩ : ∃ b, b = decide (tx s ∈ m) := ⟨_, rfl⟩
    rw [← hbx] at KP
    clear hT hbx
    go_enter Try.func115, Try.ntmps115
    go_wp2_with fail
    refine KP.out.mono ?_
    rintro e w1 ⟨rfl, b1⟩
    obtain ⟨x1, y1⟩ := hkeep.out _ b1
    obtain ⟨z2, z3, z4⟩ := x1.cells
    have Y1 := Lib.hid y1
    have K2 := Lib.hid (KN.out w1 (by rw [eT]; exact x1))
    clear x1 y1 b1 KN hkeep KP c2 c3 f3 z4
    go_wp2_with fail
    refine K2.out.mono ?_
    rintro e w3 ⟨rfl, F3, x3, f3, n3⟩
    have X3 := Lib.hid x3
    have F3' := Lib.hid f3
    have N3 := Lib.hid n3
    clear x3 f3 n3
    go_wp2_with fail
    go_end0
    exact hfin.out w1 w1 w3 F3 Y1.out (Fr.refl _ _) X3.out F3'.out N3.out

/-- the writer -/
def IW (w0 : World) (g pb : Nat) (m : List (List UInt8)) (F : List Nat) (evs : List Ev) (w : World) : Prop := WS w0 g pb F (foldE m evs) w

theorem sink_w {w0 : World} {pb : Nat} {pA : Option Addr} {pc : Nat} {m : List (List UInt8)} (g : Nat) (hp : Pl w0 pb pA pc m) (hs : m.Pairwise (fun a b => a < b)) (hm : m.length ≤ 1000000) : Sink 114 115 g w0 (IW w0 g pb m) where
  lt := fun h => WS.lt h
  ge := fun h => WS.ge h
  be := fun h => WS.be h
  kept := fun h f h1 h2 => WS.kept h f h1 h2
  num := fun {F evs w} k h hl => (w_num k h (by have := foldE_len m evs; unfold MX at hl; omega)).mono fun e w' ⟨he, F', a, b, c⟩ => ⟨he, F', by unfold IW; rw [foldE_snoc]; exact a, b, c⟩
  txt := fun {F evs w} s h hl => (w_txt hp hs hm s h (by have := foldE_len m evs; unfold MX at hl; omega)).mono fun e w' ⟨he, F', a, b, c⟩ => ⟨he, F', by unfold IW; rw [foldE_snoc]; exact a, b, c⟩
end Go.Proofs.Ytdmmkjijgoiecaa.re

/-
  record: the reference's writer: number, text, texts.
-/
namespace Go.Proofs.Ytdmmkjijgoiecaa.re
open Go.RowKit Go.Shelf Go.Proofs.Ytdmmkjijgoiecaa.mem Go.Proofs.Ytdmmkjijgoiecaa.sy Go.Proofs.Ytdmmkjijgoiecaa.vx Go.Proofs.Ytdmmkjijgoiecaa.vr Go.Proofs.Ytdmmkjijgoiecaa.po Go.Proofs.Ytdmmkjijgoiecaa.inn

structure RS (w0 : World) (g : Nat) (pA : Option Addr) (pc : Nat) (m : List (List UInt8)) (L : List (List UInt8)) (st : List UInt8 × Int) (w : World) : Prop where
  be : Below w0.heap.size w0 w
  ge : w0.heap.size ≤ g
  x : ∃ A cap, Box w g 52 #[.slice pA m.length pc, .string (bs st.1), .slice A L.length cap, .int .i64 st.2] ∧ Seg w 9 A cap (L.map encStr)

def RQ (w0 : World) (g : Nat) (pA : Option Addr) (pc : Nat) (m : List (List UInt8)) (L : List (List UInt8)) (st : List UInt8 × Int) (w : World) (e : Ending) (w' : World) : Prop := e = .returned (.tuple #[]) ∧ RS w0 g pA pc m L st w' ∧ Fr [g] w w'

section
variable {w0 : World} {g : Nat} {pA : Option Addr} {pc : Nat} {m L : List (List UInt8)} {st : List UInt8 × Int}

theorem RS.bel {w w' : World} (h : RS w0 g pA pc m L st w) (hb : Below w.heap.size w w') : RS w0 g pA pc m L st w' := by
  obtain ⟨A, cap, hx, hs⟩ := h.x
  exact ⟨below_fr h.be (Fr.of_below hb []) (by simp), h.ge, A, cap, hx.kept (Fr.of_below hb []) (by simp), hs.kept (Fr.of_below hb []) (by simp)⟩
theorem RS.drew {w : World} (h : RS w0 g pA pc m L st w) : RS w0 g pA pc m L st w.drew := h.bel (Below.refl _ _).drew

theorem RS.cells {w : World} (h : RS w0 g pA pc m L st w) : w.cell? ⟨g, 0, none⟩ = some (.slice pA m.length pc) ∧ w.cell? ⟨g, 1, none⟩ = some (.string (bs st.1)) ∧ w.cell? ⟨g, 3, none⟩ = some (.int .i64 st.2) ∧ w.frozen? ⟨g, 1, none⟩ = false ∧ w.frozen? ⟨g, 3, none⟩ = false := by
  obtain ⟨A, cap, hx, hs⟩ := h.x
  exact ⟨hx.cell 0, hx.cell 1, hx.cell 3, hx.free 1, hx.free 3⟩

theorem RS.setE {w : World} (h : RS w0 g pA pc m L st w) (e : Int) : RS w0 g pA pc m L (st.1, e) (w.setCell ⟨g, 3, none⟩ (.int .i64 e)) ∧ Fr [g] w (w.setCell ⟨g, 3, none⟩ (.int .i64 e)) := by
  obtain ⟨A, cap, hx, hs⟩ := h.x
  have f1 : Fr [g] w (w.setCell ⟨g, 3, none⟩ (.int .i64 e)) := (Fr.refl [g] w).setCell (p := ⟨g, 3, none⟩) (Or.inl (by simp)) _
  have hn : g ∉ blk A := hs.ne_box hx (by decide)
  exact ⟨⟨below_fr h.be f1 (fun x hx => by rw [List.mem_singleton] at hx; rw [hx]; exact h.ge), h.ge, A, cap, hx.put 3 _, hs.kept f1 (fun x hx h1 => by rw [List.mem_singleton] at h1; rw [h1] at hx; exact hn hx)⟩, f1⟩

theorem RS.setS {w : World} (h : RS w0 g pA pc m L st w) (S : List UInt8) : RS w0 g pA pc m L (S, st.2) (w.setCell ⟨g, 1, none⟩ (.string (bs S))) ∧ Fr [g] w (w.setCell ⟨g, 1, none⟩ (.string (bs S))) := by
  obtain ⟨A, cap, hx, hs⟩ := h.x
  have f1 : Fr [g] w (w.setCell ⟨g, 1, none⟩ (.string (bs S))) := (Fr.refl [g] w).setCell (p := ⟨g, 1, none⟩) (Or.inl (by simp)) _
  have hn : g ∉ blk A := hs.ne_box hx (by decide)
  exact ⟨⟨below_fr h.be f1 (fun x hx => by rw [List.mem_singleton] at hx; rw [hx]; exact h.ge), h.ge, A, cap, hx.put 1 _, hs.kept f1 (fun x hx h1 => by rw [List.mem_singleton] at h1; rw [h1] at hx; exact hn hx)⟩, f1⟩

set_option maxRecDepth 100000 in
theorem r_num {w : World} (k : Int) (h : RS w0 g pA pc m L st w) (hl : st.1.length ≤ 100000000) :
    Calls Try.prog 45 #[.pointer (some ⟨g, 0, none⟩), .int .i64 k] w (RQ w0 g pA pc m L (putN st k) w) := by
  obtain ⟨c0, c1, c3, f1, f3⟩ := h.cells
  have H := Lib.hid h
  obtain ⟨S, E⟩ := st
  dsimp only at c1 c3 hl
  unfold putN
  dsimp only
  clear h c0
  by_cases hE : E = 0
  · subst hE
    rw [if_neg (by simp)]
    by_cases hk : k < 0 ∨ 268435456 < k
    · rw [if_pos hk]
      have HX := Lib.hid (H.out.setE 2)
      have c3' : (w.setCell ⟨g, 3, none⟩ (.int .i64 2)).cell? ⟨g, 3, none⟩ = some (.int .i64 2) := HX.out.1.cells.2.2.1
      by_cases h1 : k < 0
      · have d1 : decide (k < 0) = true := decide_eq_true h1
        go_enter Try.func45, Try.ntmps45
        go_wp2_with fail
        go_end0
        exact ⟨rfl, HX.out.1, HX.out.2⟩
      · have d1 : decide (k < 0) = false := decide_eq_false h1
        have d2 : decide (268435456 < k) = true := decide_eq_true (by omega)
        go_enter Try.func45, Try.ntmps45
        go_wp2_with fail
        go_end0
        exact ⟨rfl, HX.out.1, HX.out.2⟩
    · rw [if_neg hk]
      have d1 : decide (k < 0) = false := decide_eq_false (by omega)
      have d2 : decide (268435456 < k) = false := decide_eq_false (by omega)
      obtain ⟨n, rfl⟩ := Int.eq_ofNat_of_zero_le (by omega : 0 ≤ k)
      have hn : n ≤ 268435456 := by omega
      rw [Int.toNat_natCast]
      have K := Lib.hid (fun w' => rnumber_any w' n hn)
      have hn5 := nb_len n hn
      have hsz : ¬ 9223372036854775807 < (bs S).size + (bs (nb n)).size := by rw [bs_size, bs_size]; omega
      have HN : Hid (∀ w2, Below w.drew.heap.size w.drew w2 → w2.cell? ⟨g, 1, none⟩ = some (.string (bs S)) ∧ w2.frozen? ⟨g, 1, none⟩ = false ∧ RS w0 g pA pc m L (S ++ nb n, 0) (w2.setCell ⟨g, 1, none⟩ (.string (bs S ++ bs (nb n)))) ∧ Fr [g] w (w2.setCell ⟨g, 1, none⟩ (.string (bs S ++ bs (nb n))))) := Lib.hid (fun w2 hb => by
        have h2 := H.out.drew.bel hb
        obtain ⟨a0, a1, a3, a4, a5⟩ := h2.cells
        have h3 := h2.setS (S ++ nb n)
        rw [← bs_app] at h3
        exact ⟨a1, a4, h3.1, ((Fr.refl [g] w).drew.trans (G := [g]) (Fr.of_below hb [g]) (by simp) (by simp)).setCell (p := ⟨g, 1, none⟩) (Or.inl (by simp)) _⟩)
      clear hk H hl f3
      go_enter Try.func45, Try.ntmps45
      go_wp2_with fail
      go_region_with ((go_at_call 68; refine (K.out _).mono ?_; rintro e w2 ⟨rfl, hb⟩; obtain ⟨k1, k2, k3, k4⟩ := HN.out _ hb; have k3 := Lib.hid k3; have k4 := Lib.hid k4; clear hb))
      all_goals (go_wp2_with fail; go_end0; exact ⟨rfl, k3.out, k4.out⟩)
  · rw [if_pos hE]
    have d0 : (E == 0) = false := by simpa using hE
    have hfr := Lib.hid (Fr.refl [g] w)
    by_cases h1 : k < 0
    · have d1 : decide (k < 0) = true := decide_eq_true h1
      go_enter Try.func45, Try.ntmps45
      go_wp2_with fail
      go_end0
      exact ⟨rfl, H.out, hfr.out⟩
    · have d1 : decide (k < 0) = false := decide_eq_false h1
      by_cases h2 : 268435456 < k
      · have d2 : decide (268435456 < k) = true := decide_eq_true h2
        go_enter Try.func45, Try.ntmps45
        go_wp2_with fail
        go_end0
        exact ⟨rfl, H.out, hfr.out⟩
      · have d2 : decide (268435456 < k) = false := decide_eq_false h2
        go_enter Try.func45, Try.ntmps45
        go_wp2_with fail
        go_end0
        exact ⟨rfl, H.out, hfr.out⟩
end
end Go.Proofs.Ytdmmkjijgoiecaa.re

/-
  record: the reference's writer: a text, a list of texts.
-/
namespace Go.Proofs.Ytdmmkjijgoiecaa.re
open Go.RowKit Go.Shelf Go.Proofs.Ytdmmkjijgoiecaa.mem Go.Proofs.Ytdmmkjijgoiecaa.sy Go.Proofs.Ytdmmkjijgoiecaa.vx Go.Proofs.Ytdmmkjijgoiecaa.vr Go.Proofs.Ytdmmkjijgoiecaa.po Go.Proofs.Ytdmmkjijgoiecaa.inn

theorem frg_trans {g : Nat} {a b c : World} (h : Fr [g] a b) (k : Fr [g] b c) : Fr [g] a c := h.trans k (fun x hx => Or.inl hx) (fun x hx => Or.inl hx)

section
variable {w0 : World} {g : Nat} {pA : Option Addr} {pc : Nat} {m L : List (List UInt8)} {st : List UInt8 × Int}

theorem RS.pool {w : World} (h : RS w0 g pA pc m L st w) (hp : Rd w0 pA (m.map encStr)) : Rd w pA (m.map encStr) := hp.below h.be

set_option maxRecDepth 100000 in
theorem r_txt {w : World} (hp : Rd w0 pA (m.map encStr)) (hm : m.length ≤ 1000000) (s : ByteArray) (h : RS w0 g pA pc m L st w) (hl : st.1.length ≤ 100000000) (hL : L.length ≤ 1000000) :
    Calls Try.prog 43 #[.pointer (some ⟨g, 0, none⟩), .string s] w (RQ w0 g pA pc m (intoS L (tx s)) (putW m st s) w) := by
  obtain ⟨A, cap, hx, hs⟩ := h.x
  have es : encStr (tx s) = .string s := rfl
  have KI := Lib.hid (into_any w A cap L (tx s) hs hL)
  rw [es] at KI
  have c2 : w.cell? ⟨g, 2, none⟩ = some (.slice A L.length cap) := hx.cell 2
  obtain ⟨T, hT⟩ : ∃ T, Hid (T = errT m st s) := ⟨_, Lib.hid rfl⟩
  obtain ⟨ix, hix⟩ : ∃ i, Hid (i = if tx s ∈ m then m.idxOf (tx s) else 0) := ⟨_, Lib.hid rfl⟩
  have hTl : T.1.length ≤ 100000000 := by rw [hT.out, errT_len]; exact hl
  have hKN := Lib.hid (fun (w1 : World) (x : RS w0 g pA pc m L st w1) => ins.number_any w1 pA pc m (tx s) (x.pool hp) hm)
  have hI : Hid (∀ A1 cap1 w1, Seg w1 9 A1 cap1 ((intoS L (tx s)).map encStr) → Below w.heap.size w w1 → (w1.cell? ⟨g, 2, none⟩ = some (.slice A L.length cap) ∧ w1.frozen? ⟨g, 2, none⟩ = false) ∧ RS w0 g pA pc m (intoS L (tx s)) st (w1.setCell ⟨g, 2, none⟩ (.slice A1 (intoS L (tx s)).length cap1)) ∧ Fr [g] w (w1.setCell ⟨g, 2, none⟩ (.slice A1 (intoS L (tx s)).length cap1))) := Lib.hid (fun A1 cap1 w1 s1 b1 => by
    have hx1 := hx.kept (Fr.of_below b1 []) (by simp)
    have f1 : Fr [g] w1 (w1.setCell ⟨g, 2, none⟩ (.slice A1 (intoS L (tx s)).length cap1)) := (Fr.refl [g] w1).setCell (p := ⟨g, 2, none⟩) (Or.inl (by simp)) _
    have hn : g ∉ blk A1 := s1.ne_box hx1 (by decide)
    have f2 : Fr [g] w (w1.setCell ⟨g, 2, none⟩ (.slice A1 (intoS L (tx s)).length cap1)) := frg_trans (Fr.of_below b1 [g]) f1
    exact ⟨⟨hx1.cell 2, hx1.free 2⟩, ⟨below_fr h.be f2 (fun x hx => by rw [List.mem_singleton] at hx; rw [hx]; exact h.ge), h.ge, A1, cap1, hx1.put 2 _, s1.kept f1 (fun x hx h1 => by rw [List.mem_singleton] at h1; rw [h1] at hx; exact hn hx)⟩, f2⟩)
  have hNum : Hid (∀ w1, RS w0 g pA pc m (intoS L (tx s)) T w1 → Calls Try.prog 45 #[.pointer (some ⟨g, 0, none⟩), .int .i64 (ix : Int)] w1 (RQ w0 g pA pc m (intoS L (tx s)) (putN T (ix : Int)) w1)) := Lib.hid (fun w1 x => r_num (ix : Int) x hTl)
  have hR : Hid (∀ w1, RS w0 g pA pc m (intoS L (tx s)) st w1 → Calls Try.prog 67 #[.slice pA m.length pc, .string s] w1 fun e w' => e = .returned (.int .i64 (ins.numV m (tx s))) ∧ w1 = w') := Lib.hid (fun w1 x => ins.number_any w1 pA pc m (tx s) (x.pool hp) hm)
  have hv : Hid (putW m st s = putN T (ix : Int)) := Lib.hid (by unfold putW; rw [hT.out, hix.out])
  rw [hv.out]
  have hfin : Hid (∀ w1 w2 w3, Fr [g] w w1 → Fr [g] w1 w2 → Fr [g] w2 w3 → Fr [g] w w3) := Lib.hid (fun w1 w2 w3 a b c => frg_trans (frg_trans a b) c)
  unfold inn.IPost at KI
  clear h hp hx hs hKN hv hl hL
  generalize intoS L (tx s) = L1 at *
  unfold RQ at hNum
  by_cases hxm : tx s ∈ m
  · have hn : Hid (ins.numV m (tx s) = (ix : Int)) := Lib.hid (by rw [hix.out, if_pos hxm]; unfold ins.numV ins.noOf; rw [if_pos hxm, if_pos hxm])
    rw [hn.out] at hR
    have eT : T = st := by rw [hT.out]; unfold errT; rw [if_neg (fun h => h.2 hxm)]
    have d0 : decide ((ix : Int) < 0) = false := decide_eq_false (by omega)
    clear hn hT hix hxm
    by_cases h0 : ix = 0
    · subst h0
      go_enter Try.func43, Try.ntmps43
      go_wp2_with fail
      refine KI.out.mono ?_
      rintro e w1 ⟨A1, cap1, rfl, s1, b1⟩
      obtain ⟨⟨z2, z3⟩, x1, y1⟩ := hI.out A1 cap1 w1 s1 b1
      have X1 := Lib.hid x1
      have Y1 := Lib.hid y1
      obtain ⟨q0, q1, q3, q4, q5⟩ := x1.cells
      have K2 := Lib.hid (hR.out _ x1)
      have K3 := Lib.hid (hNum.out _ (by rw [eT]; exact x1))
      clear s1 b1 x1 y1 hI hR hNum KI q1 q4
      go_wp2_with fail
      refine K2.out.mono ?_
      rintro e w2 ⟨rfl, rfl⟩
      go_wp2_with fail
      refine K3.out.mono ?_
      rintro e w4 ⟨rfl, x4, f4⟩
      have X4 := Lib.hid x4
      have F4 := Lib.hid f4
      clear x4 f4
      go_wp2_with fail
      go_end0
      exact ⟨rfl, X4.out, hfin.out _ _ _ Y1.out (Fr.refl _ _) F4.out⟩
    · have h1 : (0 : Int) < ix := by omega
      go_enter Try.func43, Try.ntmps43
      go_wp2_with fail
      refine KI.out.mono ?_
      rintro e w1 ⟨A1, cap1, rfl, s1, b1⟩
      obtain ⟨⟨z2, z3⟩, x1, y1⟩ := hI.out A1 cap1 w1 s1 b1
      have X1 := Lib.hid x1
      have Y1 := Lib.hid y1
      obtain ⟨q0, q1, q3, q4, q5⟩ := x1.cells
      have K2 := Lib.hid (hR.out _ x1)
      have K3 := Lib.hid (hNum.out _ (by rw [eT]; exact x1))
      clear s1 b1 x1 y1 hI hR hNum KI q1 q4
      go_wp2_with fail
      refine K2.out.mono ?_
      rintro e w2 ⟨rfl, rfl⟩
      go_wp2_with fail
      refine K3.out.mono ?_
      rintro e w4 ⟨rfl, x4, f4⟩
      have X4 := Lib.hid x4
      have F4 := Lib.hid f4
      clear x4 f4
      go_wp2_with fail
      go_end0
      exact ⟨rfl, X4.out, hfin.out _ _ _ Y1.out (Fr.refl _ _) F4.out⟩
  · have hn : Hid (ins.numV m (tx s) = -1) := Lib.hid (ins.numV_none hxm)
    rw [hn.out] at hR
    have e0 : ix = 0 := by rw [hix.out, if_neg hxm]
    subst e0
    by_cases hE : st.2 = 0
    · have eT : T = (st.1, 7) := by rw [hT.out]; unfold errT; rw [if_pos ⟨hE, hxm⟩]
      clear hn hT hix hxm
      go_enter Try.func43, Try.ntmps43
      go_wp2_with fail
      refine KI.out.mono ?_
      rintro e w1 ⟨A1, cap1, rfl, s1, b1⟩
      obtain ⟨⟨z2, z3⟩, x1, y1⟩ := hI.out A1 cap1 w1 s1 b1
      have Y1 := Lib.hid y1
      have K2 := Lib.hid (hR.out _ x1)
      obtain ⟨W1, hW1⟩ : ∃ W, W = w1.setCell ⟨g, 2, none⟩ (.slice A1 L1.length cap1) := ⟨_, rfl⟩
      obtain ⟨q0, q1, q3, q4, q5⟩ := x1.cells
      rw [hE] at q3
      have X2 := Lib.hid (x1.setE 7)
      have K3 := Lib.hid (hNum.out _ (by rw [eT]; exact X2.out.1))
      clear s1 b1 x1 y1 hI hR hNum KI q1 q4
      go_wp2_with fail
      refine K2.out.mono ?_
      rintro e w2 ⟨rfl, rfl⟩
      go_wp2_with fail
      refine K3.out.mono ?_
      rintro e w4 ⟨rfl, x4, f4⟩
      have X4 := Lib.hid x4
      have F4 := Lib.hid f4
      clear x4 f4
      go_wp2_with fail
      go_end0
      exact ⟨rfl, X4.out, hfin.out _ _ _ Y1.out X2.out.2 F4.out⟩
    · have eT : T = st := by rw [hT.out]; unfold errT; rw [if_neg (fun h => hE h.1)]
      have d0 : (st.2 == 0) = false := by simpa using hE
      clear hn hT hix hxm
      go_enter Try.func43, Try.ntmps43
      go_wp2_with fail
      refine KI.out.mono ?_
      rintro e w1 ⟨A1, cap1, rfl, s1, b1⟩
      obtain ⟨⟨z2, z3⟩, x1, y1⟩ := hI.out A1 cap1 w1 s1 b1
      have Y1 := Lib.hid y1
      obtain ⟨q0, q1, q3, q4, q5⟩ := x1.cells
      have K2 := Lib.hid (hR.out _ x1)
      have K3 := Lib.hid (hNum.out _ (by rw [eT]; exact x1))
      clear s1 b1 x1 y1 hI hR hNum KI q1 q4
      go_wp2_with fail
      refine K2.out.mono ?_
      rintro e w2 ⟨rfl, rfl⟩
      go_wp2_with fail
      refine K3.out.mono ?_
      rintro e w4 ⟨rfl, x4, f4⟩
      have X4 := Lib.hid x4
      have F4 := Lib.hid f4
      clear x4 f4
      go_wp2_with fail
      go_end0
      exact ⟨rfl, X4.out, hfin.out _ _ _ Y1.out (Fr.refl _ _) F4.out⟩
end
end Go.Proofs.Ytdmmkjijgoiecaa.re

/-
  record: the reference's writer, event by event; a list of texts.
-/
namespace Go.Proofs.Ytdmmkjijgoiecaa.re
open Go.RowKit Go.Shelf Go.Proofs.Ytdmmkjijgoiecaa.mem Go.Proofs.Ytdmmkjijgoiecaa.sy Go.Proofs.Ytdmmkjijgoiecaa.vx Go.Proofs.Ytdmmkjijgoiecaa.vr Go.Proofs.Ytdmmkjijgoiecaa.po Go.Proofs.Ytdmmkjijgoiecaa.inn

abbrev allE (evs : List Ev) : List (List UInt8) := rsS ((txE evs).map tx)
def RV (w0 : World) (g : Nat) (pA : Option Addr) (pc : Nat) (m : List (List UInt8)) (evs : List Ev) (w : World) : Prop := RS w0 g pA pc m (allE evs) (foldE m evs) w
def RVP (w0 : World) (g : Nat) (pA : Option Addr) (pc : Nat) (m : List (List UInt8)) (evs : List Ev) (w : World) (e : Ending) (w' : World) : Prop := e = .returned (.tuple #[]) ∧ RV w0 g pA pc m evs w' ∧ Fr [g] w w'

theorem allE_len (evs : List Ev) : (allE evs).length ≤ evs.length := by
  have h1 := rs_len ((txE evs).map tx)
  rw [List.length_map] at h1
  exact Nat.le_trans h1 (txE_len evs)
theorem allE_n (evs : List Ev) (k : Int) : allE (evs ++ [.n k]) = allE evs := by
  unfold allE
  rw [txE_app]
  show rsS ((txE evs ++ []).map tx) = _
  rw [List.append_nil]
theorem allE_t (evs : List Ev) (s : ByteArray) : allE (evs ++ [.t s]) = intoS (allE evs) (tx s) := by
  unfold allE
  rw [txE_app]
  show rsS ((txE evs ++ [s]).map tx) = _
  rw [List.map_append]
  exact intoAll_snoc _ _ _

section
variable {w0 : World} {g : Nat} {pA : Option Addr} {pc : Nat} {m : List (List UInt8)} {evs : List Ev}

theorem RV.be {w : World} (h : RV w0 g pA pc m evs w) : Below w0.heap.size w0 w := RS.be h
theorem RV.bel {w w' : World} (h : RV w0 g pA pc m evs w) (hb : Below w.heap.size w w') : RV w0 g pA pc m evs w' := RS.bel h hb

theorem v_num {w : World} (k : Int) (h : RV w0 g pA pc m evs w) (hl : evs.length ≤ 1000000) : Calls Try.prog 45 #[.pointer (some ⟨g, 0, none⟩), .int .i64 k] w (RVP w0 g pA pc m (evs ++ [.n k]) w) :=
  (r_num k h (by have := foldE_len m evs; omega)).mono fun e w' ⟨he, a, b⟩ => ⟨he, by unfold RV; rw [foldE_snoc, allE_n]; exact a, b⟩

theorem v_txt {w : World} (hp : Rd w0 pA (m.map encStr)) (hm : m.length ≤ 1000000) (s : ByteArray) (h : RV w0 g pA pc m evs w) (hl : evs.length ≤ 1000000) : Calls Try.prog 43 #[.pointer (some ⟨g, 0, none⟩), .string s] w (RVP w0 g pA pc m (evs ++ [.t s]) w) :=
  (r_txt hp hm s h (by have := foldE_len m evs; omega) (by have := allE_len evs; omega)).mono fun e w' ⟨he, a, b⟩ => ⟨he, by unfold RV; rw [foldE_snoc, allE_t]; exact a, b⟩

set_option maxRecDepth 100000 in
theorem v_txts {w : World} (hp : Rd w0 pA (m.map encStr)) (hm : m.length ≤ 1000000) (A : Option Addr) (c : Nat) (l : List ByteArray) (hr : Rd w0 A (l.map Value.string)) (h : RV w0 g pA pc m evs w) (hl0 : evs.length + (evL l).length ≤ 1000000) :
    Calls Try.prog 44 #[.pointer (some ⟨g, 0, none⟩), .slice A l.length c] w (RVP w0 g pA pc m (evs ++ evL l) w) := by
  have hl : evs.length + l.length + 1 ≤ 1000000 := by simpa [evL, Nat.add_assoc] using hl0
  have KN := Lib.hid (v_num (l.length : Int) h (by omega))
  have HR := Lib.hid hr
  have HT := Lib.hid (fun (w1 : World) (e1 : List Ev) (s : ByteArray) (x : RV w0 g pA pc m e1 w1) hh => v_txt hp hm s x hh)
  obtain ⟨n, hn⟩ : ∃ n, Hid (n = l.length) := ⟨_, Lib.hid rfl⟩
  have hm2 : n ≤ 1000000 := by rw [hn.out]; omega
  rw [← hn.out] at KN hl ⊢
  unfold RVP at KN HT
  clear hr h hl0 hp hm
  go_enter Try.func44, Try.ntmps44
  go_wp2_with fail
  refine KN.out.mono ?_
  rintro e w1 ⟨rfl, x1, f1⟩
  have X1 : Hid (RV w0 g pA pc m (evs ++ (Ev.n n :: (l.take 0).map Ev.t)) w1 ∧ Fr [g] w w1) := Lib.hid ⟨x1, f1⟩
  clear x1 f1 KN
  go_wp2_with fail
  go_loopw [4] (fun i wr => ∃ (k : Nat), k ≤ n ∧ i = .int .i64 k ∧ Hid (RV w0 g pA pc m (evs ++ (Ev.n n :: (l.take k).map Ev.t)) wr ∧ Fr [g] w wr)) (fun i _ => n - (intOf i).toNat)
  case atStart => exact ⟨0, by omega, rfl, X1⟩
  case round =>
    obtain ⟨k, hk, rfl, hok⟩ := hrel
    clear X1
    by_cases hkl : k < n
    · have d1 : decide ((k : Int) < (n : Int)) = true := decide_eq_true (by omega)
      have hkx : k < l.length := by rw [← hn.out]; exact hkl
      obtain ⟨b, off, rfl, hlt, hc⟩ := HR.out (by rw [List.length_map]; omega)
      have c2 : wr.cell? ⟨b, off + k, none⟩ = some (.string l[k]) := by
        have e := hc k (by rw [List.length_map]; exact hkx)
        rw [List.getElem_map] at e
        exact (hok.out.1.be.cell hlt).trans e
      have KT := Lib.hid (HT.out wr _ l[k] hok.out.1 (by rw [List.length_append, List.length_cons, List.length_map, List.length_take]; omega))
      have hnx : Hid (evs ++ (Ev.n n :: (l.take k).map Ev.t) ++ [Ev.t l[k]] = evs ++ (Ev.n n :: (l.take (k + 1)).map Ev.t)) := Lib.hid (by rw [(List.take_append_getElem hkx).symm]; simp only [List.map_append, List.map_cons, List.map_nil, List.append_assoc, List.cons_append])
      rw [hnx.out] at KT
      clear hc hnx
      generalize l[k] = x at *
      go_wp2_with fail
      refine KT.out.mono ?_
      rintro e w2 ⟨rfl, x2, f2⟩
      have X2 := Lib.hid (And.intro x2 (frg_trans hok.out.2 f2))
      clear x2 f2 KT hok c2
      go_wp2_with fail
      go_roundw
      case rel => exact ⟨k + 1, by omega, by go_num, X2⟩
      case measure => simp [intOf]; omega
    · obtain rfl : k = n := by omega
      have d1 : decide ((k : Int) < (k : Int)) = false := decide_eq_false (by omega)
      have e1 : Hid (Ev.n k :: (l.take k).map Ev.t = evL l) := Lib.hid (by rw [hn.out, List.take_length]; rfl)
      rw [e1.out] at hok
      go_wp2_with fail
      go_end0
      exact ⟨rfl, hok.out.1, hok.out.2⟩
end
end Go.Proofs.Ytdmmkjijgoiecaa.re
