/-
  Bits: the law of joining: what lives between its statements.
-/
import Derived.Test.YtnjaadcbpkbjbaaDoorBtR
import Derived.Test.YtnjaadcbpkbjbaaDoorBtZ
namespace Go.Proofs.YtnjaadcbpkbjbaaDoor.bt
open Go.RowKit Go.Shelf Go.Sort Go.Proofs.YtnjaadcbpkbjbaaDoor.mem

def IV (lo hi : Nat) (g : Nat) : Prop := lo ≤ g ∧ g < hi

structure Live (w W : World) (v : Value) (L : List (Nat × (Nat → Prop) × List Blk)) : Prop where
  on : Below w.heap.size w W
  bx : Box W w.heap.size 3 #[v]
  sx : ∀ x ∈ L, SX W x.2.1 x.1 x.2.2

theorem Live.below {w W W' : World} {v : Value} {L : List (Nat × (Nat → Prop) × List Blk)} (h : Live w W v L) (hb : Below W.heap.size W W') : Live w W' v L :=
  ⟨h.on.trans (hb.mono h.on.size), h.bx.kept (Fr.of_below hb []) (by simp), fun x hx => (h.sx x hx).below hb⟩
theorem Live.sub {w W : World} {v : Value} {L M : List (Nat × (Nat → Prop) × List Blk)} (h : Live w W v L) (hM : ∀ x ∈ M, x ∈ L) : Live w W v M := ⟨h.on, h.bx, fun x hx => h.sx x (hM x hx)⟩

theorem Live.one {w W : World} {v : Value} {s : Nat} {P Q : Nat → Prop} {B : List Blk} {L : List (Nat × (Nat → Prop) × List Blk)} (h : Live w W v L) (hm : (s, P, B) ∈ L) (hPQ : ∀ g, g < W.heap.size → P g → Q g) : Live w W v [(s, Q, B)] :=
  ⟨h.on, h.bx, fun x hx => by obtain rfl := List.mem_singleton.1 hx; exact (h.sx _ hm).mono hPQ⟩

def LNew (w W : World) (v : Value) (L : List (Nat × (Nat → Prop) × List Blk)) (B : List Blk) (e : Ending) (W' : World) : Prop :=
  ∃ s, e = .returned (.pointer (some ⟨s, 0, none⟩)) ∧ W.heap.size ≤ W'.heap.size ∧ Live w W' v ((s, IV W.heap.size W'.heap.size, B) :: L)
def LVal (w W : World) (v : Value) (L : List (Nat × (Nat → Prop) × List Blk)) (u : Value) (e : Ending) (W' : World) : Prop :=
  e = .returned u ∧ W.heap.size ≤ W'.heap.size ∧ Live w W' v L

theorem l_new {w W W' : World} {v : Value} {L : List (Nat × (Nat → Prop) × List Blk)} {B : List Blk} {e : Ending} (h : Live w W v L) (hn : NewX W B e W') : LNew w W v L B e W' := by
  obtain ⟨s, rfl, hb, hs⟩ := hn
  refine ⟨s, rfl, hb.size, ?_⟩
  have := h.below hb
  refine ⟨this.on, this.bx, fun x hx => ?_⟩
  rcases List.mem_cons.1 hx with rfl | hx
  · exact hs
  · exact this.sx x hx

theorem l_of {w W : World} {v : Value} {L : List (Nat × (Nat → Prop) × List Blk)} (h : Live w W v L) (A : Option Addr) (c : Nat) (xs : List Int) (hbig : xs.length ≤ 1000) (hA : Rd w A (xs.map eI)) : Calls Tryd.prog 18 #[.slice A xs.length c] W (LNew w W v L (ofB xs)) :=
  (x_of W A c xs hbig (hA.below h.on)).mono fun _ _ hn => l_new h hn
theorem l_less {w W : World} {v : Value} {L : List (Nat × (Nat → Prop) × List Blk)} (h : Live w W v L) {s s2 : Nat} {P Q : Nat → Prop} {B C : List Blk} (h1 : (s, P, B) ∈ L) (h2 : (s2, Q, C) ∈ L) : Calls Tryd.prog 19 #[.pointer (some ⟨s, 0, none⟩), .pointer (some ⟨s2, 0, none⟩)] W (LNew w W v L (lessB B C)) :=
  (x_less (h.sx _ h1) (h.sx _ h2)).mono fun _ _ hn => l_new h hn
theorem l_both {w W : World} {v : Value} {L : List (Nat × (Nat → Prop) × List Blk)} (h : Live w W v L) {s s2 : Nat} {P Q : Nat → Prop} {B C : List Blk} (h1 : (s, P, B) ∈ L) (h2 : (s2, Q, C) ∈ L) : Calls Tryd.prog 20 #[.pointer (some ⟨s, 0, none⟩), .pointer (some ⟨s2, 0, none⟩)] W (LNew w W v L (bothB B C)) :=
  (x_both (h.sx _ h1) (h.sx _ h2)).mono fun _ _ hn => l_new h hn
theorem l_len {w W : World} {v : Value} {L : List (Nat × (Nat → Prop) × List Blk)} (h : Live w W v L) {s : Nat} {P : Nat → Prop} {B : List Blk} (h1 : (s, P, B) ∈ L) : Calls Tryd.prog 11 #[.pointer (some ⟨s, 0, none⟩)] W (LVal w W v L (.int .i64 ((flat B).length : Nat))) :=
  (x_len (h.sx _ h1)).mono fun _ _ ⟨a, b⟩ => ⟨a, b.size, h.below b⟩
theorem l_same {w W : World} {v : Value} {L : List (Nat × (Nat → Prop) × List Blk)} (h : Live w W v L) {s s2 : Nat} {P Q : Nat → Prop} {B C : List Blk} (h1 : (s, P, B) ∈ L) (h2 : (s2, Q, C) ∈ L) (he : B = C) : Calls Tryd.prog 14 #[.pointer (some ⟨s, 0, none⟩), .pointer (some ⟨s2, 0, none⟩)] W (LVal w W v L (.bool true)) :=
  (x_same (h.sx _ h1) (h.sx _ h2)).mono fun _ _ ⟨a, b⟩ => ⟨by rw [a, decide_eq_true he], b.size, h.below b⟩

theorem l_join {w W : World} {v : Value} {L M : List (Nat × (Nat → Prop) × List Blk)} (h : Live w W v L) {s s2 : Nat} {P Q : Nat → Prop} {B C : List Blk} (h1 : (s, P, B) ∈ L) (h2 : (s2, Q, C) ∈ L) (hM : ∀ x ∈ M, x ∈ L) (hd : ∀ x ∈ M, ∀ g, g < W.heap.size → x.2.1 g → ¬ P g) (hP : ∀ g, P g → w.heap.size < g) :
    Calls Tryd.prog 7 #[.pointer (some ⟨s, 0, none⟩), .pointer (some ⟨s2, 0, none⟩)] W (LVal w W v ((s, fun g => P g ∨ W.heap.size ≤ g, orB B C) :: M) (.int .i64 (misN (prs B C) : Nat))) := by
  refine (x_join (h.sx _ h1) (h.sx _ h2)).mono ?_
  rintro e W' ⟨rfl, hf, hs⟩
  refine ⟨rfl, hf.size, h.on.trans (hf.below h.on.size (fun g hg => Nat.le_of_lt (hP g hg))), hf.box h.bx (fun hp => by have := hP _ hp; omega), fun x hx => ?_⟩
  rcases List.mem_cons.1 hx with rfl | hx
  · exact hs
  · exact (h.sx x (hM x hx)).apart hf (hd x hx)

theorem live_put {w W : World} {v u : Value} {L : List (Nat × (Nat → Prop) × List Blk)} (h : Live w W v L) (hP : ∀ x ∈ L, ∀ g, x.2.1 g → w.heap.size < g) : Live w (W.setCell ⟨w.heap.size, 0, none⟩ u) u L := by
  have hf : FrP (fun g => g = w.heap.size) W (W.setCell ⟨w.heap.size, 0, none⟩ u) := FrP.of_fr (F := [w.heap.size]) ((Fr.refl _ W).setCell (Or.inl (by simp)) _) (by simp)
  refine ⟨h.on.trans (hf.below h.on.size (fun g hg => by omega)), h.bx.put 0 u, fun x hx => (h.sx x hx).apart hf (fun g _ hg => by have := hP x hx g hg; omega)⟩

def rem20 (n : Int) : Nat := (IntKind.u64.wrap n % 20).toNat
theorem rem20_lt (n : Int) : rem20 n < 20 := by unfold rem20; omega
theorem rem20_eq (n : Int) : wrap64 ((IntKind.u64.wrap n).tmod 20) = (rem20 n : Int) := by
  have h : 0 ≤ IntKind.u64.wrap n := by rw [IntKind.wrap_u64]; omega
  unfold rem20
  generalize IntKind.u64.wrap n = u at *
  rw [Int.tmod_eq_emod_of_nonneg h]
  unfold wrap64
  omega

/-- told to the counting closure -/
theorem l_each {w W : World} {v : Value} {L : List (Nat × (Nat → Prop) × List Blk)} (h : Live w W v L) (hT : TabB w) (hw : 0 < w.heap.size) {s bs g st : Nat} {P : Nat → Prop} {B : List Blk} (h1 : (s, P, B) ∈ L) (hv : v = .int .i64 (st : Nat)) (hst : st < 20) (hbs : W.cell? ⟨bs, 0, none⟩ = some (.pointer (some ⟨s, 0, none⟩))) (hg : Box W g 3 #[.int .i64 (0 : Nat)]) (hgw : w.heap.size < g) (hgs : ∀ p, P p → p ≠ g) :
    Calls Tryd.prog 37 #[.func (.func 22) #[] #[.pointer (some ⟨g, 0, none⟩), .pointer (some ⟨w.heap.size, 0, none⟩)], .pointer (some ⟨bs, 0, none⟩)] W
      fun e W' => e = .returned (.tuple #[]) ∧ Live w W' v [(s, P, B)] ∧ Box W' g 3 #[.int .i64 ((min (st + 1) (flat B).length : Nat) : Int)] := by
  obtain ⟨A, cap, hs, hp, hq⟩ := h.sx _ h1
  subst hv
  refine (each1_count W bs s g w.heap.size st A cap B hbs hs ⟨hg, h.bx, by omega⟩ (tab_kept hT (Fr.of_below h.on []) (by simp)) hst (by simp; omega)).mono ?_
  rintro e W' ⟨rfl, htb, hf⟩
  refine ⟨rfl, ⟨h.on.trans (hf.below (by simp; omega) h.on.size), htb.bh, fun x hx => ?_⟩, htb.bg⟩
  obtain rfl := List.mem_singleton.1 hx
  exact ⟨A, cap, hs.kept hf (by simpa using hgs s hp) (fun q hq' => by simpa using hgs q (hq q hq')), hp, hq⟩
end Go.Proofs.YtnjaadcbpkbjbaaDoor.bt
