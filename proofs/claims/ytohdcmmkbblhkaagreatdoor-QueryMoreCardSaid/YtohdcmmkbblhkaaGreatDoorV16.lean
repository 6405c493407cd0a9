import Derived.Test.YtohdcmmkbblhkaaGreatDoorV05
import Derived.Test.YtohdcmmkbblhkaaGreatDoorV12
import Derived.Test.YtohdcmmkbblhkaaGreatDoorV13
import Derived.Test.YtohdcmmkbblhkaaGreatDoorUTj1
import Derived.Test.YtohdcmmkbblhkaaGreatDoorUTb
import Derived.Test.YtohdcmmkbblhkaaGreatDoorV19
import Derived.Test.YtohdcmmkbblhkaaGreatDoorV18
import Derived.Test.YtohdcmmkbblhkaaGreatDoorV01
import Derived.Deep.RegionLaw
import Derived.Deep.QuietTactic
import Derived.Deep.RegionHeld3
import Derived.BigQuiet
import Derived.Test.YtohdcmmkbblhkaaGreatDoorUQs
import Derived.Test.YtohdcmmkbblhkaaGreatDoorV03
import Derived.Test.YtohdcmmkbblhkaaGreatDoorV21
import Derived.Lib.SlicesS
/-
  query: facts and calls, plain.
-/
set_option linter.all false
namespace Go.Proofs.YtohdcmmkbblhkaaGreatDoor.qy
open Go.Proofs.YtohdcmmkbblhkaaGreatDoor.inn (Ordr intoAll into ordS intoAll_spec rises_ext rsS mem_rsS)
open Go.Proofs.YtohdcmmkbblhkaaGreatDoor.nm (readB cand)
open Go.Proofs.YtohdcmmkbblhkaaGreatDoor.tj

abbrev T := List UInt8
/-- a fact: a node, and what it has -/
structure Fa where
  node : T
  locs : List T

def ofL : List Fa → T → List T
  | [], _ => []
  | f :: r, x => if f.node = x then f.locs else ofL r x
theorem ofL_end (l : List Fa) (x : T) : ofL (l.drop l.length) x = [] := by rw [List.drop_length]; rfl
theorem ofL_at {l : List Fa} {k : Nat} (hk : k < l.length) (x : T) : ofL (l.drop k) x = if l[k].node = x then l[k].locs else ofL (l.drop (k + 1)) x := by
  rw [List.drop_eq_getElem_cons hk]; rfl
theorem ofL_len {l : List Fa} {n : Nat} (h : ∀ f ∈ l, f.locs.length ≤ n) (x : T) : (ofL l x).length ≤ n := by
  induction l with
  | nil => exact Nat.zero_le _
  | cons f r ih =>
    unfold ofL
    split
    · exact h f List.mem_cons_self
    · exact ih fun g hg => h g (List.mem_cons_of_mem _ hg)
theorem ofL_take (l : List Fa) (k : Nat) (x : T) : ofL (l.take k) x = ofL l x ∨ ofL (l.take k) x = [] := by
  induction l generalizing k with
  | nil => exact Or.inr (by simp [ofL])
  | cons f r ih =>
    cases k with
    | zero => exact Or.inr (by simp [ofL])
    | succ k =>
      rw [List.take_succ_cons]
      unfold ofL
      split
      · exact Or.inl rfl
      · exact ih k
theorem ofL_mem {l : List Fa} {x p : T} (h : p ∈ ofL l x) : ∃ f ∈ l, p ∈ f.locs := by
  induction l with
  | nil => cases h
  | cons f r ih =>
    unfold ofL at h
    split at h
    · exact ⟨f, List.mem_cons_self, h⟩
    · obtain ⟨g, hg, hp⟩ := ih h
      exact ⟨g, List.mem_cons_of_mem _ hg, hp⟩

def aliasB (l : List Fa) (a b : T) : Bool := (ofL l a).any fun p => decide (p ∈ ofL l b)
theorem aliasB_comm (l : List Fa) (a b : T) : aliasB l a b = aliasB l b a := by
  have h : ∀ a b : T, aliasB l a b = true → aliasB l b a = true := fun a b h => by
    unfold aliasB at h ⊢
    rw [List.any_eq_true] at h ⊢
    obtain ⟨p, hp, hq⟩ := h
    exact ⟨p, of_decide_eq_true hq, decide_eq_true hp⟩
  rw [Bool.eq_iff_iff]
  exact ⟨h a b, h b a⟩
theorem aliasB_take (l : List Fa) (k : Nat) (a b : T) : aliasB (l.take k) a b = true → aliasB l a b = true := fun h => by
  unfold aliasB at h ⊢
  rcases ofL_take l k a with ha | ha
  · rcases ofL_take l k b with hb | hb
    · rwa [ha, hb] at h
    · rw [hb] at h
      simp at h
  · rw [ha] at h
    simp at h

def bs (l : T) : ByteArray := ⟨l.toArray⟩
def isFn (p : T) : Bool := readB (bs p) && decide ((cand (bs p)).kind = 4)
def fnT (p : T) : T := (cand (bs p)).fn.data.toList
def fnsL (l : List T) : List T := (l.filter isFn).map fnT
theorem fm_snoc {α β : Type} (p : α → Bool) (f : α → β) (l : List α) (x : α) : ((l ++ [x]).filter p).map f = (l.filter p).map f ++ (if p x = true then [f x] else []) := by
  rw [List.filter_append, List.map_append]
  congr 1
  by_cases h : p x = true
  · rw [if_pos h, List.filter_cons_of_pos h]; rfl
  · rw [if_neg h, List.filter_cons_of_neg h]; rfl
theorem fnsL_snoc (l : List T) (p : T) : fnsL (l ++ [p]) = fnsL l ++ (if isFn p = true then [fnT p] else []) := fm_snoc isFn fnT l p
def calleesL (l : List Fa) (s : T) : List T := rsS (fnsL (ofL l s))
theorem fnsL_len (l : List T) : (fnsL l).length ≤ l.length := by
  unfold fnsL
  rw [List.length_map]
  exact List.length_filter_le _ _

def holdL (l : List Fa) (p : T) : List T := (l.filter fun f => decide (p ∈ f.locs)).map (·.node)
theorem holdL_snoc (l : List Fa) (f : Fa) (p : T) : holdL (l ++ [f]) p = holdL l p ++ (if p ∈ f.locs then [f.node] else []) := by
  unfold holdL
  rw [fm_snoc]
  congr 1
  by_cases h : p ∈ f.locs
  · rw [if_pos h, if_pos (by simpa using h)]
  · rw [if_neg h, if_neg (by simpa using h)]
def holdersL (l : List Fa) (p : T) : List T := rsS (holdL l p)
theorem holdL_len (l : List Fa) (p : T) : (holdL l p).length ≤ l.length := by
  unfold holdL
  rw [List.length_map]
  exact List.length_filter_le _ _

theorem rsS_pw (l : List T) : (rsS l).Pairwise (· < ·) := (intoAll_spec ordS l).1
theorem rsS_nodup (l : List T) : (rsS l).Nodup := (rsS_pw l).imp (fun {a b} h e => by subst e; exact List.lt_irrefl _ h)
theorem rsS_sub {l m : List T} (h : ∀ x ∈ l, x ∈ m) : (rsS l).length ≤ (rsS m).length :=
  nodup_len (rsS_nodup l) fun x hx => (mem_rsS m x).2 (h x ((mem_rsS l x).1 hx))
theorem callees_take (l : List Fa) (k : Nat) (s : T) : (calleesL (l.take k) s).length ≤ (calleesL l s).length := by
  unfold calleesL
  rcases ofL_take l k s with h | h
  · rw [h]; exact Nat.le_refl _
  · rw [h]; exact Nat.zero_le _
theorem holders_take (l : List Fa) (k : Nat) (p : T) : (holdersL (l.take k) p).length ≤ (holdersL l p).length :=
  rsS_sub fun x hx => by
    unfold holdL at hx ⊢
    obtain ⟨f, hf, rfl⟩ := List.mem_map.1 hx
    rw [List.mem_filter] at hf
    exact List.mem_map.2 ⟨f, List.mem_filter.2 ⟨List.mem_of_mem_take hf.1, hf.2⟩, rfl⟩

/-- calls -/
abbrev Ed := T × T
/-- just what some come to -/
structure RS (l : List Ed) (fr R : List T) : Prop where
  st : ∀ x ∈ fr, x ∈ R
  ed : ∀ e ∈ l, e.1 ∈ R → e.2 ∈ R
  le : ∀ X : T → Prop, (∀ x ∈ fr, X x) → (∀ e ∈ l, X e.1 → X e.2) → ∀ x ∈ R, X x
theorem RS.mem {l : List Ed} {fr R R' : List T} (h : RS l fr R) (h' : RS l fr R') (x : T) : x ∈ R ↔ x ∈ R' :=
  ⟨fun hx => h.le (· ∈ R') h'.st h'.ed x hx, fun hx => h'.le (· ∈ R) h.st h.ed x hx⟩
theorem RS.eq {l : List Ed} {fr R R' : List T} (h : RS l fr R) (h' : RS l fr R') (p : R.Pairwise (· < ·)) (p' : R'.Pairwise (· < ·)) : R = R' := rises_ext ordS p p' (h.mem h')
/-- what is reached is reached again from what is reached -/
theorem RS.again {l : List Ed} {fr R R' : List T} (h : RS l fr R) (h' : RS l R R') (x : T) : x ∈ R ↔ x ∈ R' :=
  ⟨fun hx => h'.st x hx, fun hx => h'.le (· ∈ R) (fun _ h => h) h.ed x hx⟩
theorem RS.more {l l' : List Ed} {fr R R' : List T} (h : RS l fr R) (h' : RS l' fr R') (hl : ∀ e ∈ l, e ∈ l') (x : T) (hx : x ∈ R) : x ∈ R' :=
  h.le (· ∈ R') h'.st (fun e he h1 => h'.ed e (hl e he) h1) x hx

/-- all functions of calls, and calls by their numbers -/
def both (e : Ed) : List T := [e.1, e.2]
def namesL (l : List Ed) : List T := rsS (l.flatMap both)
def numI (ns : List T) (x : T) : Int := (ns.idxOf x : Nat)
def numE (ns : List T) (l : List Ed) : List (Int × Int) := l.map fun e => (numI ns e.1, numI ns e.2)
def textsP (ns : List T) (p : List Nat) : List T := p.map fun v => ns.getD v []
def orderL (l : List Ed) : List (List T) := (gof ((namesL l).length : Nat) (numE (namesL l) l)).parts.map (textsP (namesL l))

theorem mem_names {l : List Ed} {x : T} : x ∈ namesL l ↔ ∃ e ∈ l, x = e.1 ∨ x = e.2 := by
  unfold namesL
  rw [mem_rsS, List.mem_flatMap]
  simp [both]
theorem names_len (l : List Ed) : (namesL l).length ≤ 2 * l.length := by
  have h := (intoAll_spec ordS (l.flatMap both)).1
  have h1 := nodup_len (rsS_nodup (l.flatMap both)) fun x hx => (mem_rsS _ x).1 hx
  have h2 : (l.flatMap both).length = 2 * l.length := by
    clear h h1
    induction l with
    | nil => rfl
    | cons e r ih => simp only [List.flatMap_cons, List.length_append, ih, both, List.length_cons, List.length_nil]; omega
  unfold namesL
  omega

section
variable {l : List Ed}
def gr (l : List Ed) : G := gof ((namesL l).length : Nat) (numE (namesL l) l)
theorem gr_n : (gr l).n = (namesL l).length := by show ((namesL l).length : Int).toNat = _; omega
theorem gr_ok : (gr l).ok := gof_ok _ _
theorem idx_lt {x : T} (h : x ∈ namesL l) : (namesL l).idxOf x < (namesL l).length := List.idxOf_lt_length_of_mem h
theorem idx_get {x : T} (h : x ∈ namesL l) : (namesL l).getD ((namesL l).idxOf x) [] = x := by
  rw [List.getD_eq_getElem?_getD, List.getElem?_eq_getElem (idx_lt h), Option.getD_some]
  exact List.getElem_idxOf _
theorem get_idx {v : Nat} (h : v < (namesL l).length) : (namesL l).idxOf ((namesL l).getD v []) = v := by
  rw [List.getD_eq_getElem?_getD, List.getElem?_eq_getElem h, Option.getD_some]
  exact List.Nodup.idxOf_getElem (rsS_nodup _) v h
theorem get_mem {v : Nat} (h : v < (namesL l).length) : (namesL l).getD v [] ∈ namesL l := by
  rw [List.getD_eq_getElem?_getD, List.getElem?_eq_getElem h, Option.getD_some]
  exact List.getElem_mem h
theorem gr_mem {a b : Nat} : (a, b) ∈ (gr l).E ↔ ∃ e ∈ l, (namesL l).idxOf e.1 = a ∧ (namesL l).idxOf e.2 = b := by
  unfold gr
  rw [gof_mem]
  constructor
  · rintro ⟨_, _, h⟩
    unfold numE at h
    obtain ⟨e, he, h⟩ := List.mem_map.1 h
    simp only [Prod.mk.injEq, numI] at h
    exact ⟨e, he, by omega, by omega⟩
  · rintro ⟨e, he, rfl, rfl⟩
    have h1 := idx_lt (mem_names.2 ⟨e, he, Or.inl rfl⟩)
    have h2 := idx_lt (mem_names.2 ⟨e, he, Or.inr rfl⟩)
    refine ⟨by omega, by omega, ?_⟩
    unfold numE
    exact List.mem_map.2 ⟨e, he, rfl⟩

/-- of one part each comes to all -/
theorem order_reach {p : List T} (hp : p ∈ orderL l) {a b : T} (ha : a ∈ p) (hb : b ∈ p) {R : List T} (h : RS l [a] R) : b ∈ R := by
  unfold orderL at hp
  obtain ⟨q, hq, rfl⟩ := List.mem_map.1 hp
  have hP := (gr l).parts_parted gr_ok
  obtain ⟨i, hi, _, rfl⟩ := hP.cls q hq
  unfold textsP at ha hb
  obtain ⟨u, hu, rfl⟩ := List.mem_map.1 ha
  obtain ⟨v, hv, rfl⟩ := List.mem_map.1 hb
  rw [(gr l).mem_cls] at hu hv
  rw [gr_n] at hi hu hv
  have huv : (gr l).R u v = true := by
    have h1 := hu.2
    have h2 := hv.2
    unfold G.Q at h1 h2
    rw [Bool.and_eq_true] at h1 h2
    exact (gr l).trans (by rw [gr_n]; exact hi) h1.2 h2.1
  have := (gr l).closed (X := fun k => (namesL l).getD k [] ∈ R) (fun x y hxy hx => by
    obtain ⟨e, he, rfl, rfl⟩ := gr_mem.1 hxy
    rw [idx_get (mem_names.2 ⟨e, he, Or.inl rfl⟩)] at hx
    rw [idx_get (mem_names.2 ⟨e, he, Or.inr rfl⟩)]
    exact h.ed e he hx) (h.st _ (by simp)) huv
  exact this
end
end Go.Proofs.YtohdcmmkbblhkaaGreatDoor.qy

/-
  query: facts and calls in memory; lists of texts that grow.
-/
set_option linter.all false
namespace Go.Proofs.YtohdcmmkbblhkaaGreatDoor.qy
open Go.RowKit Go.Sort Go.Proofs.YtohdcmmkbblhkaaGreatDoor.mem Go.Proofs.YtohdcmmkbblhkaaGreatDoor.wd
open Go.Proofs.YtohdcmmkbblhkaaGreatDoor.inn (rsS mem_rsS)

/-- a fact as it lies -/
structure MF where
  f : Fa
  A : Option Addr
  c : Nat
def MF.row (x : MF) : List Value := [encStr x.f.node, .slice x.A x.f.locs.length x.c]
structure FOk (w : World) (x : MF) : Prop where
  n : x.f.node.length ≤ maxLen
  r : Rd w x.A (x.f.locs.map encStr)
  l : x.f.locs.length ≤ maxLen
  t : ∀ s ∈ x.f.locs, s.length ≤ maxLen
theorem FOk.below {w w' : World} {x : MF} (h : FOk w x) (hb : Below w.heap.size w w') : FOk w' x := ⟨h.n, h.r.below hb, h.l, h.t⟩
structure FacM (w : World) (A : Option Addr) (l : List MF) : Prop where
  t : Tbl w A 2 (l.map MF.row)
  ok : ∀ x ∈ l, FOk w x
  n : l.length ≤ maxLen
theorem FacM.below {w w' : World} {A : Option Addr} {l : List MF} (h : FacM w A l) (hb : Below w.heap.size w w') : FacM w' A l := ⟨h.t.below hb, fun x hx => (h.ok x hx).below hb, h.n⟩
def facs (l : List MF) : List Fa := l.map (·.f)
theorem facs_len (l : List MF) : (facs l).length = l.length := by simp [facs]
theorem facs_at {l : List MF} {k : Nat} (hk : k < l.length) : (facs l)[k]? = some l[k].f := by
  unfold facs
  rw [List.getElem?_map, List.getElem?_eq_getElem hk]
  rfl
theorem fac_at {w : World} {A : Option Addr} {l : List MF} (h : FacM w A l) {k : Nat} (hk : k < l.length) :
    ∃ b off, A = some ⟨b, off, none⟩ ∧ b < w.heap.size ∧ w.cell? ⟨b, off + k * 2, none⟩ = some (encStr l[k].f.node) ∧ w.cell? ⟨b, off + k * 2 + 1, none⟩ = some (.slice l[k].A l[k].f.locs.length l[k].c) := by
  obtain ⟨b, off, e, hl, hc⟩ := h.t.row hk
  exact ⟨b, off, e, hl, hc 0 _ rfl, hc 1 _ rfl⟩

/-- calls as they lie -/
def edRow (e : Ed) : List Value := [encStr e.1, encStr e.2]
def EdM (w : World) (A : Option Addr) (l : List Ed) : Prop := Tbl w A 2 (l.map edRow)
theorem EdM.below {w w' : World} {A : Option Addr} {l : List Ed} (h : EdM w A l) (hb : Below w.heap.size w w') : EdM w' A l := Tbl.below h hb
theorem ed_at {w : World} {A : Option Addr} {l : List Ed} (h : EdM w A l) {k : Nat} (hk : k < l.length) :
    ∃ b off, A = some ⟨b, off, none⟩ ∧ b < w.heap.size ∧ w.cell? ⟨b, off + k * 2, none⟩ = some (encStr l[k].1) ∧ w.cell? ⟨b, off + k * 2 + 1, none⟩ = some (encStr l[k].2) := by
  obtain ⟨b, off, e, hl, hc⟩ := Tbl.row h hk
  exact ⟨b, off, e, hl, hc 0 _ rfl, hc 1 _ rfl⟩

theorem rd_at {w : World} {A : Option Addr} {l : List T} (h : Rd w A (l.map encStr)) {k : Nat} (hk : k < l.length) : ∃ b off, A = some ⟨b, off, none⟩ ∧ b < w.heap.size ∧ w.cell? ⟨b, off + k, none⟩ = some (encStr l[k]) := by
  obtain ⟨b, off, e, hl, hc⟩ := h (by rw [List.length_map]; omega)
  exact ⟨b, off, e, hl, by rw [hc k (by rw [List.length_map]; exact hk), List.getElem_map]⟩

/-- a list of texts that grows, in blocks of the call's own -/
structure TL (w wr : World) (A : Option Addr) (cap : Nat) (l : List T) : Prop where
  seg : Seg wr 9 A cap (l.map encStr)
  fr : Below w.heap.size w wr
  own : ∀ q ∈ blk A, w.heap.size ≤ q
theorem TL.nil {w wr : World} (h : Below w.heap.size w wr) : TL w wr none 0 [] := ⟨Seg.nil _ _, h, fun q hq => by cases hq⟩
theorem TL.on {w wr w2 : World} {A : Option Addr} {cap : Nat} {l : List T} (h : TL w wr A cap l) (hb : Below wr.heap.size wr w2) : TL w w2 A cap l := ⟨h.seg.kept (Fr.of_below hb []) (by simp), h.fr.trans (hb.mono h.fr.size), h.own⟩
theorem TL.push {w wr w2 : World} {A A2 : Option Addr} {cap cap2 : Nat} {l : List T} {s : T} {o : Obj} (h : TL w wr A cap l) (hs : Seg w2 9 A2 cap2 (l.map encStr ++ [encStr s])) (f : Fr (blk A) (wr.alloc o) w2) (hb : blk A2 = blk A ∨ blk A2 = [(wr.alloc o).heap.size]) : TL w w2 A2 cap2 (l ++ [s]) := by
  have f2 : Fr (blk A) wr w2 := ((Fr.refl [] wr).alloc o).trans f (fun g hg => (by cases hg)) (fun g hg => Or.inl hg)
  refine ⟨by simpa using hs, h.fr.trans (f2.below (fun g hg => h.own g hg) h.fr.size), fun q hq => ?_⟩
  rcases hb with e | e
  · exact h.own q (e ▸ hq)
  · rw [e, List.mem_singleton] at hq
    have := h.fr.size
    subst hq
    simp
    omega
theorem TL.alloc {w wr : World} {A : Option Addr} {cap : Nat} {l : List T} (h : TL w wr A cap l) (o : Obj) : TL w (wr.alloc o) A cap l := h.on ((Fr.refl [] wr).alloc o).all
theorem TL.rd {w wr : World} {A : Option Addr} {cap : Nat} {l : List T} (h : TL w wr A cap l) : Rd wr A (l.map encStr) := h.seg.rd

/-- a list of texts that a call hands out -/
def LP (w : World) (l : List T) (e : Ending) (w' : World) : Prop := ∃ A cap, e = .returned (.slice A l.length cap) ∧ Rd w' A (l.map encStr) ∧ Below w.heap.size w w'
def BP (b : Bool) (w : World) (e : Ending) (w' : World) : Prop := e = .returned (.bool b) ∧ Below w.heap.size w w'

theorem clone_any (w : World) (A : Option Addr) (c : Nat) (ss : List T) (h : Rd w A (ss.map encStr)) (hbig : ss.length ≤ 1000000) :
    Calls Tryz.prog 44 #[.slice A ss.length c] w (LP w ss) := by
  rcases Nat.eq_zero_or_pos ss.length with hz | hz
  · have hn : ss = [] := List.eq_nil_of_length_eq_zero hz
    subst hn
    refine (inn.clone0_s w A c).mono ?_
    rintro e w' ⟨B, cap, rfl, hb⟩
    exact ⟨B, cap, rfl, fun h => absurd h (Nat.not_lt_zero _), hb⟩
  · refine (inn.clone_s w A c ss h hz hbig).mono ?_
    rintro e w' ⟨g, cap, rfl, _, hcb, hb⟩
    exact ⟨_, cap, rfl, hcb.rd, hb⟩

theorem sorted_any (w : World) (A : Option Addr) (c : Nat) (ss : List T) (hA : Rd w A (ss.map encStr)) (hbig : ss.length ≤ 1000000) :
    Calls Tryz.prog 25 #[.slice A ss.length c] w (LP w (rsS ss)) := by
  refine (inn.sorted_any w A c ss hA hbig).mono ?_
  rintro e w' ⟨B, cap, rfl, hb, hr⟩
  exact ⟨B, cap, rfl, hr, hb⟩
end Go.Proofs.YtohdcmmkbblhkaaGreatDoor.qy

/-
  query: what is too much to be asked; calls handed on.
-/
set_option linter.all false
namespace Go.Proofs.YtohdcmmkbblhkaaGreatDoor.qy
open Go.RowKit Go.Sort Go.Proofs.YtohdcmmkbblhkaaGreatDoor.mem Go.Proofs.YtohdcmmkbblhkaaGreatDoor.wd

/-- as long as reaches -/
structure FBig (x : MF) : Prop where
  n : x.f.node.length ≤ 140737488355328
  l : x.f.locs.length ≤ 8796093022208
  t : ∀ s ∈ x.f.locs, s.length ≤ 140737488355328

def ad (a b : Int) : Int := wrap64 (a + b)
theorem w64 {x : Int} (h1 : -1000000000000000000 ≤ x) (h2 : x ≤ 1000000000000000000) : wrap64 x = x := by unfold wrap64; omega
theorem bsz (l : T) : (ByteArray.mk l.toArray).size = l.length := by simp [ByteArray.size]
def GFPost (w : World) (l : List MF) (e : Ending) (w' : World) : Prop := ∃ r, e = .returned (.bool r) ∧ Below w.heap.size w w' ∧ (r = false → l.length ≤ 100 ∧ ∀ f ∈ l, f.f.locs.length ≤ 5000)

set_option maxHeartbeats 2000000 in
set_option maxRecDepth 100000 in
theorem greatF_any (w : World) (A : Option Addr) (cap : Nat) (l : List MF) (h : FacM w A l) (hbig : ∀ x ∈ l, FBig x) :
    Calls Tryz.prog 7 #[.slice A l.length cap] w (GFPost w l) := by
  have H := Lib.hid (fun W (hb : Below w.heap.size w W) => h.below hb)
  have HB := Lib.hid hbig
  have hn := h.n
  unfold maxLen at hn
  clear h hbig
  unfold GFPost
  obtain ⟨n, hN⟩ : ∃ n, Hid (n = l.length) := ⟨_, Lib.hid rfl⟩
  rw [← hN.out] at hn ⊢
  go_enter Tryz.func7, Tryz.ntmps7
  by_cases h0 : 100 < n
  · have d0 : decide ((100 : Int) < (n : Int)) = true := decide_eq_true (by omega)
    go_wp2_with fail
    go_ret
    exact ⟨true, rfl, Below.refl _ _, fun h => by cases h⟩
  have d0 : decide ((100 : Int) < (n : Int)) = false := decide_eq_false (by omega)
  go_wp2_with fail
  go_loopw [3, 4] (fun v i wr => ∃ (k : Nat) (z : Int), k ≤ n ∧ i = .int .i64 k ∧ v = .int .i64 z ∧ 0 ≤ z ∧ z ≤ 50000 ∧ Hid (∀ f ∈ l.take k, f.f.locs.length ≤ 5000) ∧ Hid (Below w.heap.size w wr)) (fun _ i _ => n - (intOf i).toNat)
  case atStart => exact ⟨0, 0, by omega, rfl, rfl, by omega, by omega, Lib.hid (fun f hf => by simp at hf), Lib.hid (Below.refl _ _)⟩
  case round =>
    obtain ⟨k, z, hk, rfl, rfl, hz1, hz2, hG, hX⟩ := hrel
    rename World => wr
    by_cases hkl : k < n
    · have e1 : decide ((k : Int) < (n : Int)) = true := decide_eq_true (by omega)
      have hkx : k < l.length := by rw [← hN.out]; exact hkl
      have HK : Hid (∀ W, Below w.heap.size w W → ∃ b off, A = some ⟨b, off, none⟩ ∧ W.cell? ⟨b, off + k * 2, none⟩ = some (encStr l[k].f.node) ∧ W.cell? ⟨b, off + k * 2 + 1, none⟩ = some (.slice l[k].A l[k].f.locs.length l[k].c)) := Lib.hid (fun W hb => by
        obtain ⟨b, off, e, _, h0, h1⟩ := fac_at (H.out W hb) hkx
        exact ⟨b, off, e, h0, h1⟩)
      have HR : Hid (∀ W, Below w.heap.size w W → Rd W l[k].A (l[k].f.locs.map encStr)) := Lib.hid (fun W hb => ((H.out W hb).ok l[k] (List.getElem_mem hkx)).r)
      have hbg := Lib.hid (HB.out l[k] (List.getElem_mem hkx))
      have hGk : Hid (l[k].f.locs.length ≤ 5000 → ∀ f ∈ l.take (k + 1), f.f.locs.length ≤ 5000) := Lib.hid (fun h f hf => by
        rw [List.take_succ_eq_append_getElem hkx, List.mem_append, List.mem_singleton] at hf
        rcases hf with hf | rfl
        · exact hG.out f hf
        · exact h)
      obtain ⟨b, off, rfl, c0, c1⟩ := HK.out wr hX.out
      clear hG
      generalize l[k] = x at *
      obtain ⟨⟨nd, lc⟩, yA, yc⟩ := x
      dsimp only at *
      have ha := hbg.out.n
      have hm := hbg.out.l
      dsimp only at ha hm
      obtain ⟨ml, hml⟩ : ∃ m, Hid (m = lc.length) := ⟨_, Lib.hid rfl⟩
      rw [← hml.out] at c1 hm hGk
      have HK1 : Hid (∀ W, Below w.heap.size w W → W.cell? ⟨b, off + k * 2 + 1, none⟩ = some (.slice yA ml yc)) := Lib.hid (fun W hb => by
        obtain ⟨b', o', e', _, c⟩ := HK.out W hb
        injection e' with e'
        injection e' with e1' e2'
        subst e1'
        subst e2'
        rw [hml.out]
        exact c)
      unfold encStr at c0
      clear HK
      go_wp2_with fail
      go_quiet (fail)
      have hX1 := Lib.hid (hX.out.trans (((Fr.refl [] wr).drewN nq).all.mono hX.out.size))
      clear c0 c1 hX
      go_wp2_with fail
      go_loopw [3, 5] (fun v i wx => ∃ (j : Nat) (y : Int), j ≤ ml ∧ j ≤ 500 ∧ i = .int .i64 j ∧ v = .int .i64 y ∧ 10 * (ml : Int) ≤ y ∧ y ≤ 1000000000000000 + j * 140737488355328 ∧ Hid (Below w.heap.size w wx)) (fun _ i _ => ml - (intOf i).toNat)
      case atStart => exact ⟨0, _, by omega, by omega, rfl, rfl, by omega, by omega, hX1⟩
      case round =>
        obtain ⟨j, y, hj, hj5, rfl, rfl, hy1, hy2, hX5⟩ := hrel
        clear hX1
        rename World => wx
        have c1 := HK1.out wx hX5.out
        by_cases hjl : j < ml
        · have e2 : decide ((j : Int) < (ml : Int)) = true := decide_eq_true (by omega)
          by_cases h5 : j < 500
          · have e3 : decide ((j : Int) < 500) = true := decide_eq_true (by omega)
            have hjx : j < lc.length := by rw [← hml.out]; exact hjl
            obtain ⟨g, o, rfl, hg, c3⟩ := rd_at (HR.out wx hX5.out) hjx
            have ht := hbg.out.t lc[j] (List.getElem_mem hjx)
            unfold encStr at c3
            generalize lc[j] = tx at *
            go_wp2_with fail
            go_roundw
            case rel => exact ⟨j + 1, _, by omega, by omega, by go_num, rfl, by omega, by omega, hX5⟩
            case measure => simp [intOf]; omega
          · have e3 : decide ((j : Int) < 500) = false := decide_eq_false (by omega)
            by_cases hy5 : 50000 < y
            · have e4 : decide (50000 < y) = true := decide_eq_true hy5
              go_wp2_with fail
              go_ret
              exact ⟨true, rfl, hX5.out, fun h => by cases h⟩
            · have e4 : decide (50000 < y) = false := decide_eq_false hy5
              have hG2 := Lib.hid (hGk.out (by omega))
              go_wp2_with fail
              go_roundw
              case rel => exact ⟨k + 1, y, by omega, by go_num, rfl, by omega, by omega, hG2, hX5⟩
              case measure => simp [intOf]; omega
        · have e2 : decide ((j : Int) < (ml : Int)) = false := decide_eq_false (by omega)
          by_cases hy5 : 50000 < y
          · have e4 : decide (50000 < y) = true := decide_eq_true hy5
            go_wp2_with fail
            go_ret
            exact ⟨true, rfl, hX5.out, fun h => by cases h⟩
          · have e4 : decide (50000 < y) = false := decide_eq_false hy5
            have hG2 := Lib.hid (hGk.out (by omega))
            go_wp2_with fail
            go_roundw
            case rel => exact ⟨k + 1, y, by omega, by go_num, rfl, by omega, by omega, hG2, hX5⟩
            case measure => simp [intOf]; omega
    · obtain rfl : k = n := by omega
      have e1 : decide ((k : Int) < (k : Int)) = false := decide_eq_false (by omega)
      have hall : Hid (∀ f ∈ l, f.f.locs.length ≤ 5000) := Lib.hid (by
        have := hG.out
        rwa [List.take_of_length_le (by rw [hN.out]; exact Nat.le_refl _)] at this)
      go_wp2_with fail
      go_ret
      exact ⟨false, rfl, hX.out, fun _ => ⟨by omega, hall.out⟩⟩

def GTPost (w : World) (l : List T) (e : Ending) (w' : World) : Prop := ∃ r, e = .returned (.bool r) ∧ w = w' ∧ (r = false → l.length ≤ 60 ∧ ∀ s ∈ l, s.length ≤ 100)

theorem len_take {l : List T} {k : Nat} (hk : k < l.length) (h : ∀ s ∈ l.take k, s.length ≤ 100) (h2 : l[k].length ≤ 100) : ∀ s ∈ l.take (k + 1), s.length ≤ 100 := fun s hs => by
  rw [List.take_succ_eq_append_getElem hk, List.mem_append, List.mem_singleton] at hs
  rcases hs with hs | rfl
  · exact h s hs
  · exact h2

set_option maxRecDepth 100000 in
theorem greatT_any (w : World) (A : Option Addr) (cap : Nat) (l : List T) (h : Rd w A (l.map encStr)) (hm : l.length ≤ maxLen) :
    Calls Tryz.prog 17 #[.slice A l.length cap] w (GTPost w l) := by
  have Hh := Lib.hid h
  unfold maxLen at hm
  clear h
  unfold GTPost
  obtain ⟨n, hN⟩ : ∃ n, Hid (n = l.length) := ⟨_, Lib.hid rfl⟩
  rw [← hN.out] at hm ⊢
  go_enter Tryz.func17, Tryz.ntmps17
  go_wp2_with fail
  go_loopw [3] (fun i wr => ∃ k : Nat, k ≤ n ∧ k ≤ 60 ∧ i = .int .i64 k ∧ Hid (∀ s ∈ l.take k, s.length ≤ 100) ∧ w = wr) (fun i _ => n - (intOf i).toNat)
  case atStart => exact ⟨0, by omega, by omega, rfl, Lib.hid (fun s hs => by simp at hs), rfl⟩
  case round =>
    obtain ⟨k, hk, hk6, rfl, hG, rfl⟩ := hrel
    by_cases hkl : k < n
    · have e1 : decide ((k : Int) < (n : Int)) = true := decide_eq_true (by omega)
      have hkx : k < l.length := by rw [← hN.out]; exact hkl
      by_cases h6 : 60 ≤ k
      · have e2 : decide ((60 : Int) ≤ (k : Int)) = true := decide_eq_true (by omega)
        go_wp2_with fail
        go_ret
        exact ⟨true, rfl, rfl, fun h => by cases h⟩
      · have e2 : decide ((60 : Int) ≤ (k : Int)) = false := decide_eq_false (by omega)
        obtain ⟨g, o, rfl, hg, c3⟩ := rd_at Hh.out hkx
        have hG2 := Lib.hid (len_take hkx hG.out)
        clear hG
        unfold encStr at c3
        generalize l[k] = tx at *
        by_cases h100 : 100 < tx.length
        · have e3 : decide ((100 : Int) < (tx.length : Int)) = true := decide_eq_true (by omega)
          go_wp2_with fail
          go_ret
          exact ⟨true, rfl, rfl, fun h => by cases h⟩
        · have e3 : decide ((100 : Int) < (tx.length : Int)) = false := decide_eq_false (by omega)
          have hG3 := Lib.hid (hG2.out (by omega))
          clear hG2
          go_wp2_with fail
          go_roundw
          case rel => exact ⟨k + 1, by omega, by omega, by go_num, hG3, trivial⟩
          case measure => simp [intOf]; omega
    · obtain rfl : k = n := by omega
      have e1 : decide ((k : Int) < (k : Int)) = false := decide_eq_false (by omega)
      have hall : Hid (∀ s ∈ l, s.length ≤ 100) := Lib.hid (by
        have := hG.out
        rwa [List.take_of_length_le (by rw [hN.out]; exact Nat.le_refl _)] at this)
      go_wp2_with fail
      go_ret
      exact ⟨false, rfl, rfl, fun _ => ⟨hk6, hall.out⟩⟩

def GEPost (w : World) (l : List Ed) (e : Ending) (w' : World) : Prop := ∃ r, e = .returned (.bool r) ∧ w = w' ∧ (r = false → l.length ≤ 40 ∧ ∀ e ∈ l, e.1.length ≤ 100 ∧ e.2.length ≤ 100)

theorem ed_take {l : List Ed} {k : Nat} (hk : k < l.length) (h : ∀ e ∈ l.take k, e.1.length ≤ 100 ∧ e.2.length ≤ 100) (h1 : l[k].1.length ≤ 100) (h2 : l[k].2.length ≤ 100) : ∀ e ∈ l.take (k + 1), e.1.length ≤ 100 ∧ e.2.length ≤ 100 := fun s hs => by
  rw [List.take_succ_eq_append_getElem hk, List.mem_append, List.mem_singleton] at hs
  rcases hs with hs | rfl
  · exact h s hs
  · exact ⟨h1, h2⟩

set_option maxHeartbeats 1000000 in
set_option maxRecDepth 100000 in
theorem greatE_any (w : World) (A : Option Addr) (cap : Nat) (l : List Ed) (h : EdM w A l) (hm : l.length ≤ maxLen) :
    Calls Tryz.prog 16 #[.slice A l.length cap] w (GEPost w l) := by
  have Hh := Lib.hid h
  unfold maxLen at hm
  clear h
  unfold GEPost
  obtain ⟨n, hN⟩ : ∃ n, Hid (n = l.length) := ⟨_, Lib.hid rfl⟩
  rw [← hN.out] at hm ⊢
  go_enter Tryz.func16, Tryz.ntmps16
  go_wp2_with fail
  go_loopw [3] (fun i wr => ∃ k : Nat, k ≤ n ∧ k ≤ 40 ∧ i = .int .i64 k ∧ Hid (∀ e ∈ l.take k, e.1.length ≤ 100 ∧ e.2.length ≤ 100) ∧ w = wr) (fun i _ => n - (intOf i).toNat)
  case atStart => exact ⟨0, by omega, by omega, rfl, Lib.hid (fun s hs => by simp at hs), rfl⟩
  case round =>
    obtain ⟨k, hk, hk6, rfl, hG, rfl⟩ := hrel
    by_cases hkl : k < n
    · have e1 : decide ((k : Int) < (n : Int)) = true := decide_eq_true (by omega)
      have hkx : k < l.length := by rw [← hN.out]; exact hkl
      by_cases h6 : 40 ≤ k
      · have e2 : decide ((40 : Int) ≤ (k : Int)) = true := decide_eq_true (by omega)
        go_wp2_with fail
        go_ret
        exact ⟨true, rfl, rfl, fun h => by cases h⟩
      · have e2 : decide ((40 : Int) ≤ (k : Int)) = false := decide_eq_false (by omega)
        obtain ⟨g, o, rfl, hg, c3, c4⟩ := ed_at Hh.out hkx
        have hG2 := Lib.hid (ed_take hkx hG.out)
        clear hG
        unfold encStr at c3 c4
        generalize l[k] = tx at *
        obtain ⟨x, y⟩ := tx
        dsimp only at c3 c4 hG2
        by_cases h100 : 100 < x.length
        · have e3 : decide ((100 : Int) < (x.length : Int)) = true := decide_eq_true (by omega)
          go_wp2_with fail
          go_ret
          exact ⟨true, rfl, rfl, fun h => by cases h⟩
        · have e3 : decide ((100 : Int) < (x.length : Int)) = false := decide_eq_false (by omega)
          by_cases h101 : 100 < y.length
          · have e4 : decide ((100 : Int) < (y.length : Int)) = true := decide_eq_true (by omega)
            go_wp2_with fail
            go_ret
            exact ⟨true, rfl, rfl, fun h => by cases h⟩
          · have e4 : decide ((100 : Int) < (y.length : Int)) = false := decide_eq_false (by omega)
            have hG3 := Lib.hid (hG2.out (by omega) (by omega))
            clear hG2
            go_wp2_with fail
            go_roundw
            case rel => exact ⟨k + 1, by omega, by omega, by go_num, hG3, trivial⟩
            case measure => simp [intOf]; omega
    · obtain rfl : k = n := by omega
      have e1 : decide ((k : Int) < (k : Int)) = false := decide_eq_false (by omega)
      have hall : Hid (∀ e ∈ l, e.1.length ≤ 100 ∧ e.2.length ≤ 100) := Lib.hid (by
        have := hG.out
        rwa [List.take_of_length_le (by rw [hN.out]; exact Nat.le_refl _)] at this)
      go_wp2_with fail
      go_ret
      exact ⟨false, rfl, rfl, fun _ => ⟨hk6, hall.out⟩⟩

/-- rows of two texts, cell by cell -/
def fe (l : List Ed) : List Value := l.flatMap edRow
theorem fe_len (l : List Ed) : (fe l).length = l.length * 2 := by
  unfold fe
  induction l with
  | nil => rfl
  | cons x r ih => rw [List.flatMap_cons, List.length_append, ih]; simp [edRow]; omega
theorem fe_snoc (l : List Ed) (e : Ed) : fe (l ++ [e]) = fe l ++ [encStr e.1, encStr e.2] := by simp [fe, edRow]
theorem fe_at : ∀ (l : List Ed) (j : Nat) (hj : j < l.length) (i : Nat) (v : Value), (edRow l[j])[i]? = some v → (fe l)[j * 2 + i]? = some v
  | [], j, hj, _, _, _ => by simp at hj
  | e :: r, 0, _, i, v, h => by
    have hi : i < (edRow e).length := (List.getElem?_eq_some_iff.1 h).1
    unfold fe
    rw [List.flatMap_cons, Nat.zero_mul, Nat.zero_add, List.getElem?_append_left hi]
    exact h
  | e :: r, j + 1, hj, i, v, h => by
    have h2 := fe_at r j (by simpa using hj) i v h
    have e1 : fe (e :: r) = encStr e.1 :: encStr e.2 :: fe r := by simp [fe, edRow]
    rw [e1, show (j + 1) * 2 + i = j * 2 + i + 1 + 1 by omega]
    simpa using h2

theorem info_edge : (Tryz.prog.info? 64).map (fun i => (i.zero, i.size, i.bytes)) = some (some (.agg #[.string ByteArray.empty, .string ByteArray.empty]), 2, 32) := by kernel_rfl

structure EA (w W : World) (l : List Ed) (k : Nat) (B : Option Addr) (c : Nat) : Prop where
  sg : Sg 2 W 64 B c k (fe (l.take k))
  ge : ∀ x ∈ blk B, w.heap.size ≤ x
  on : Below w.heap.size w W
theorem EA.eds {w W : World} {l : List Ed} {B : Option Addr} {c : Nat} (h : EA w W l l.length B c) : EdM W B l := fun hz => by
  have hs := h.sg
  rw [List.take_length] at hs
  rw [List.length_map] at hz
  obtain ⟨g, off, e, hl, hc⟩ := hs.rd (by omega) (by rw [fe_len]; omega)
  refine ⟨g, off, e, hl, fun j hj i v hv => ?_⟩
  rw [List.length_map] at hj
  rw [List.getElem_map] at hv
  have h1 := fe_at l j hj i v hv
  obtain ⟨h2, h3⟩ := List.getElem?_eq_some_iff.1 h1
  have := hc (j * 2 + i) h2
  rw [h3] at this
  rw [Nat.add_assoc]
  exact this

def EdPost (w : World) (l : List Ed) (n : Nat) (e : Ending) (W : World) : Prop := ∃ B c, e = .returned (.slice B n c) ∧ EdM W B l ∧ Below w.heap.size w W

set_option maxRecDepth 100000 in
set_option maxHeartbeats 2000000 in
theorem edges_any (w : World) (A : Option Addr) (cap : Nat) (l : List Ed) (h : EdM w A l) (hl : l.length ≤ 1000) :
    Calls Tryz.prog 19 #[.slice A l.length cap] w (EdPost w l l.length) := by
  obtain ⟨n, hn⟩ : ∃ n, Hid (l.length = n) := ⟨_, Lib.hid rfl⟩
  have hnb : n ≤ 1000 := by rw [← hn.out]; exact hl
  have H := Lib.hid (fun W (hb : Below w.heap.size w W) => h.below hb)
  rw [hn.out]
  have hE0 : Hid (EA w w l 0 none 0) := Lib.hid ⟨Sg.new _ _ _, fun x hx => (by cases hx), Below.refl _ _⟩
  obtain ⟨i0, hi0, hz0, hz1, hz2⟩ := info_parts info_edge
  have Hi := Lib.hid hi0
  have Hz0 := Lib.hid hz0
  have Hz1 := Lib.hid hz1
  have Hz2 := Lib.hid hz2
  clear h hl hi0 hz0 hz1 hz2
  go_enter Tryz.func19, Tryz.ntmps19
  go_wp2_with fail
  go_loopw [3, 4] (fun s i wr => ∃ (k : Nat) (B : Option Addr) (c : Nat), k ≤ n ∧ i = .int .i64 k ∧ s = .slice B k c ∧ Hid (EA w wr l k B c)) (fun _ i _ => n - (intOf i).toNat)
  case atStart => exact ⟨0, none, 0, by omega, rfl, rfl, hE0⟩
  case round =>
    obtain ⟨k, B, c, hk, rfl, rfl, hE⟩ := hrel
    clear hE0
    rename World => wr
    by_cases hkn : k < n
    · have d1 : decide ((k : Int) < (n : Int)) = true := decide_eq_true (by omega)
      have hkI : (k : Int) < (n : Int) := by omega
      have hkl : k < l.length := by rw [hn.out]; exact hkn
      obtain ⟨b, off, rfl, hlt, ca, cb⟩ := ed_at (H.out wr hE.out.on) hkl
      have hts := Lib.hid (List.take_succ_eq_append_getElem hkl)
      clear hlt
      generalize l[k] = pk at *
      clear hkl
      obtain ⟨x, y⟩ := pk
      dsimp only at ca cb
      have h63 : k + 1 ≤ 9223372036854775807 := by omega
      have hby : (k + 1) * 32 ≤ 140737488355328 := by omega
      go_wp2_with fail
      go_region_law
        ((refine step_row (us := [encStr x, encStr y]) (by rfl) (.tmp 11) (.tmp 23) _ (by rfl) ((sg_drew hE.out.sg).alloc _) Tryz.underlying34 Hi.out Hz0.out Hz1.out Hz2.out rfl (by rfl) (by rfl) rfl (two_cells _ _ _ _) (by simp [Value.oneCell', encStr]) h63 hby ?_; intro A2 cap2 w2 hs2 f2 hb2))
      all_goals
        have f6 : Fr (blk B) wr w2 := (((Fr.refl [] wr).drew).alloc _).trans f2 (by simp) (fun g hg => Or.inl hg)
        have hE2 : Hid (EA w w2 l (k + 1) A2 cap2) := Lib.hid ⟨by rw [hts.out, fe_snoc]; exact hs2, fun z hz => by
          rcases hb2 with e | e
          · exact hE.out.ge z (e ▸ hz)
          · rw [e, List.mem_singleton] at hz
            subst hz
            have := hE.out.on.size
            simp [World.drew]; omega, hE.out.on.trans (f6.below hE.out.ge hE.out.on.size)⟩
        clear hs2 f2 hb2 f6 hE ca cb
        go_wp2_with fail
        go_roundw
        case rel => exact ⟨k + 1, A2, cap2, by omega, by go_num, rfl, hE2⟩
        case measure => simp [intOf]; omega
    · obtain rfl : k = n := by omega
      have d1 : decide ((k : Int) < (k : Int)) = false := decide_eq_false (by omega)
      have fin : Hid (EdPost w l k (.returned (.slice B k c)) wr) := Lib.hid ⟨B, c, rfl, by have := hE.out; rw [← hn.out] at this; exact this.eds, hE.out.on⟩
      clear hE
      go_wp2_with fail
      go_ret
      exact fin.out
end Go.Proofs.YtohdcmmkbblhkaaGreatDoor.qy

/-
  query: what a node has, both sides; a text's number; whether it is among others.
-/
set_option linter.all false
namespace Go.Proofs.YtohdcmmkbblhkaaGreatDoor.qy
open Go.RowKit Go.Sort Go.Proofs.YtohdcmmkbblhkaaGreatDoor.mem Go.Proofs.YtohdcmmkbblhkaaGreatDoor.wd

set_option maxRecDepth 100000 in
theorem of_any (w : World) (A : Option Addr) (cap : Nat) (l : List MF) (x : T) (h : FacM w A l) (hs : ∀ f ∈ l, f.f.locs.length ≤ 1000000) :
    Calls Tryz.prog 26 #[.slice A l.length cap, encStr x] w (LP w (ofL (facs l) x)) := by
  have H := Lib.hid (fun W (hb : Below w.heap.size w W) => h.below hb)
  have HS := Lib.hid hs
  have hn := h.n
  unfold maxLen at hn
  clear h hs
  obtain ⟨n, hN⟩ : ∃ n, Hid (n = l.length) := ⟨_, Lib.hid rfl⟩
  rw [← hN.out] at hn ⊢
  obtain ⟨R, hR⟩ : ∃ R, Hid (R = ofL (facs l) x) := ⟨_, Lib.hid rfl⟩
  rw [← hR.out]
  unfold LP
  go_enter Tryz.func26, Tryz.ntmps26
  have B0 := Lib.hid (Below.refl w.heap.size w)
  go_wp2_with fail
  go_loopw [9] (fun i wr => ∃ k : Nat, k ≤ n ∧ i = .int .i64 k ∧ Hid (R = ofL ((facs l).drop k) x) ∧ Hid (Below w.heap.size w wr)) (fun i _ => n - (intOf i).toNat)
  case atStart => exact ⟨0, by omega, rfl, hR, B0⟩
  case round =>
    obtain ⟨k, hk, rfl, hf, hb⟩ := hrel
    clear B0
    rename World => wr
    by_cases hkl : k < n
    · have e1 : decide ((k : Int) < (n : Int)) = true := decide_eq_true (by omega)
      have hkx : k < l.length := by rw [← hN.out]; exact hkl
      have hat : Hid (R = if l[k].f.node = x then l[k].f.locs else ofL ((facs l).drop (k + 1)) x) := Lib.hid (by
        have h1 : k < (facs l).length := by rw [facs_len]; exact hkx
        rw [hf.out, ofL_at h1]
        have h2 := facs_at hkx
        rw [List.getElem?_eq_getElem h1] at h2
        rw [Option.some.inj h2])
      obtain ⟨g, off, rfl, hg, c0, c1⟩ := fac_at (H.out wr hb.out) hkx
      have hrd := Lib.hid ((H.out wr hb.out).ok l[k] (List.getElem_mem hkx)).r
      have hsz := HS.out l[k] (List.getElem_mem hkx)
      clear hf
      generalize l[k] = y at *
      obtain ⟨⟨nd, lc⟩, yA, yc⟩ := y
      dsimp only at *
      have B1 := Lib.hid (Box.new wr 48 #[encStr nd, .slice yA lc.length yc])
      have hb1 := Lib.hid (hb.out.trans (((Fr.refl [] wr).alloc (.cells #[encStr nd, .slice yA lc.length yc] 48)).all.mono hb.out.size))
      have hrd1 := Lib.hid (hrd.out.alloc (.cells #[encStr nd, .slice yA lc.length yc] 48))
      have b0 := B1.out.cell 0
      have b1 := B1.out.cell 1
      simp only [List.getElem?_toArray, List.getElem?_cons_zero, List.getElem?_cons_succ] at b0 b1
      unfold encStr at b0 c0 ⊢
      rcases hq : (nd == x) with _ | _
      · have hne : nd ≠ x := by simpa using hq
        have hf2 : Hid (R = ofL ((facs l).drop (k + 1)) x) := Lib.hid (by rw [hat.out, if_neg hne])
        clear hne hat hrd hrd1
        go_wp2_with fail
        go_roundw
        case rel => exact ⟨k + 1, by omega, by go_num, hf2, hb1⟩
        case measure => simp [intOf]; omega
      · have heq : nd = x := by simpa using hq
        have hf2 : Hid (R = lc) := Lib.hid (by rw [hat.out, if_pos heq])
        have HC := Lib.hid (clone_any _ yA yc lc hrd1.out hsz)
        unfold LP at HC
        clear heq hat hrd hrd1
        go_wp2_with fail
        refine HC.out.mono ?_
        rintro e w2 ⟨B, cp, rfl, hr2, hb2⟩
        have fin : Hid (LP w R (.returned (.slice B lc.length cp)) w2) := Lib.hid (by rw [hf2.out]; exact ⟨B, cp, rfl, hr2, hb1.out.trans (hb2.mono hb1.out.size)⟩)
        clear hr2 hb2
        go_wp2_with fail
        go_ret
        exact fin.out
    · obtain rfl : k = n := by omega
      have e1 : decide ((k : Int) < (k : Int)) = false := decide_eq_false (by omega)
      have hf2 : Hid (R = []) := Lib.hid (by rw [hf.out, hN.out, ← facs_len]; exact ofL_end _ _)
      clear hf
      go_wp2_with fail
      go_ret
      exact ⟨none, 0, by rw [hf2.out]; rfl, by rw [hf2.out]; exact fun h => absurd h (Nat.not_lt_zero _), hb.out⟩

set_option maxRecDepth 100000 in
theorem rof_any (w : World) (A : Option Addr) (cap : Nat) (l : List MF) (x : T) (h : FacM w A l) (hs : ∀ f ∈ l, f.f.locs.length ≤ 1000000) :
    Calls Tryz.prog 30 #[.slice A l.length cap, encStr x] w (LP w (ofL (facs l) x)) := by
  have H := Lib.hid h
  have HS := Lib.hid hs
  have hn := h.n
  unfold maxLen at hn
  clear h hs
  obtain ⟨n, hN⟩ : ∃ n, Hid (n = l.length) := ⟨_, Lib.hid rfl⟩
  rw [← hN.out] at hn ⊢
  obtain ⟨R, hR⟩ : ∃ R, Hid (R = ofL (facs l) x) := ⟨_, Lib.hid rfl⟩
  rw [← hR.out]
  unfold LP
  obtain ⟨i0, hi0, hz0, hz1, hz2⟩ := info_parts inn.info_str
  have Hi := Lib.hid hi0
  have Hz0 := Lib.hid hz0
  have Hz1 := Lib.hid hz1
  have Hz2 := Lib.hid hz2
  clear hi0 hz0 hz1 hz2
  go_enter Tryz.func30, Tryz.ntmps30
  go_wp2_with fail
  go_loopw [5] (fun i wr => ∃ k : Nat, k ≤ n ∧ i = .int .i64 k ∧ Hid (R = ofL ((facs l).drop k) x) ∧ w = wr) (fun i _ => n - (intOf i).toNat)
  case atStart => exact ⟨0, by omega, rfl, hR, rfl⟩
  case round =>
    obtain ⟨k, hk, rfl, hf, rfl⟩ := hrel
    by_cases hkl : k < n
    · have e1 : decide ((k : Int) < (n : Int)) = true := decide_eq_true (by omega)
      have hkx : k < l.length := by rw [← hN.out]; exact hkl
      have hat : Hid (R = if l[k].f.node = x then l[k].f.locs else ofL ((facs l).drop (k + 1)) x) := Lib.hid (by
        have h1 : k < (facs l).length := by rw [facs_len]; exact hkx
        rw [hf.out, ofL_at h1]
        have h2 := facs_at hkx
        rw [List.getElem?_eq_getElem h1] at h2
        rw [Option.some.inj h2])
      obtain ⟨g, off, rfl, hg, c0, c1⟩ := fac_at H.out hkx
      have hrd := Lib.hid (H.out.ok l[k] (List.getElem_mem hkx)).r
      have hsz := HS.out l[k] (List.getElem_mem hkx)
      clear hf
      generalize l[k] = y at *
      obtain ⟨⟨nd, lc⟩, yA, yc⟩ := y
      dsimp only at *
      unfold encStr at c0 ⊢
      rcases hq : (nd == x) with _ | _
      · have hne : nd ≠ x := by simpa using hq
        have hf2 : Hid (R = ofL ((facs l).drop (k + 1)) x) := Lib.hid (by rw [hat.out, if_neg hne])
        clear hne hat hrd
        go_wp2_with fail
        go_roundw
        case rel => exact ⟨k + 1, by omega, by go_num, hf2, trivial⟩
        case measure => simp [intOf]; omega
      · have heq : nd = x := by simpa using hq
        have hf2 : Hid (R = lc) := Lib.hid (by rw [hat.out, if_pos heq])
        have hle : Hid (lc.length = (lc.map encStr).length) := Lib.hid (by simp)
        clear heq hat
        go_wp2_with (at_builtin; refine wpList_app (n := 0) (m := lc.length) rfl (.tmp 19) (.tmp 24) _ rfl (inn.fresh_nil w _) (hrd.out.alloc _) rfl hle.out Tryz.underlying26 Hi.out Hz0.out Hz1.out Hz2.out rfl rfl rfl (inn.enc_one lc) (by omega) (by omega) ?_; intro A1 cap1 w1 hs1 f1 hb1)
        have a1 := inn.fresh_fr f1
        have fin : Hid (LP w R (.returned (.slice A1 lc.length cap1)) w1) := Lib.hid (by rw [hf2.out]; exact ⟨A1, cap1, rfl, hs1.rd, a1.all⟩)
        clear hs1 f1 hb1 a1
        go_ret
        exact fin.out
    · obtain rfl : k = n := by omega
      have e1 : decide ((k : Int) < (k : Int)) = false := decide_eq_false (by omega)
      have hf2 : Hid (R = []) := Lib.hid (by rw [hf.out, hN.out, ← facs_len]; exact ofL_end _ _)
      clear hf
      go_wp2_with fail
      go_ret
      exact ⟨none, 0, by rw [hf2.out]; rfl, by rw [hf2.out]; exact fun h => absurd h (Nat.not_lt_zero _), Below.refl _ _⟩
end Go.Proofs.YtohdcmmkbblhkaaGreatDoor.qy

/-
  query: who may have the same place: the program's.
-/
set_option linter.all false
namespace Go.Proofs.YtohdcmmkbblhkaaGreatDoor.qy
open Go.RowKit Go.Sort Go.Shelf Go.Proofs.YtohdcmmkbblhkaaGreatDoor.mem Go.Proofs.YtohdcmmkbblhkaaGreatDoor.wd
open Go.Proofs.YtohdcmmkbblhkaaGreatDoor.inn (rsS mem_rsS)

set_option maxRecDepth 100000 in
theorem al_asks (W : World) (ob : Nat) (A : Option Addr) (cap : Nat) (m : List T) (x : T) (hc : W.cell? ⟨ob, 0, none⟩ = some (.slice A m.length cap)) (h : Rd W A (m.map encStr)) (hp : m.Pairwise (fun a b => a < b)) (hm : m.length ≤ 1000000) :
    Calls Tryz.prog 28 #[encStr x, .pointer (some ⟨ob, 0, none⟩)] W fun e w' => e = .returned (.bool (decide (x ∈ m))) ∧ W = w' := by
  have K := Lib.hid (qs.search_any W A cap m x h hp hm)
  generalize decide (x ∈ m) = r at *
  clear h hp
  go_enter Tryz.func28, Tryz.ntmps28
  go_wp2_with fail
  refine K.out.mono ?_
  rintro e w2 ⟨rfl, rfl⟩
  go_wp2_with fail
  go_ret
  exact ⟨rfl, rfl⟩

theorem al_enters : ∀ (args : Array Value) (w : World), (callFunc 28 args).run Tryz.prog w = .ok (.enter 28 args) w := by intro args w; go_simp

theorem al_any (w : World) (ob : Nat) (A B : Option Addr) (cap c : Nat) (m zs : List T) (hob : ob < w.heap.size) (hc : w.cell? ⟨ob, 0, none⟩ = some (.slice A m.length cap)) (h : Rd w A (m.map encStr)) (hp : m.Pairwise (fun a b => a < b)) (hm : m.length ≤ 1000000) (hz : Rd w B (zs.map encStr)) (hzl : zs.length ≤ 1000000) :
    Calls Tryz.prog 27 #[.slice B zs.length c, .func (.func 28) #[] #[.pointer (some ⟨ob, 0, none⟩)]] w (BP (zs.any fun x => decide (x ∈ m)) w) := by
  rcases Nat.eq_zero_or_pos zs.length with h0 | h0
  · obtain rfl : zs = [] := List.eq_nil_of_length_eq_zero h0
    refine (Tryz.slices_ContainsFunc_empty (α := T) B c _ w).mono ?_
    rintro e w' ⟨rfl, rfl⟩
    exact ⟨rfl, Below.refl _ _⟩
  · obtain ⟨g, off, rfl, hl, hcell⟩ := hz (by simpa using h0)
    have K := Tryz.slices_ContainsFunc encStr (fun x : T => decide (x ∈ m)) 28 #[.pointer (some ⟨ob, 0, none⟩)] al_enters g off zs.length c zs w (fun W x hb => by
        refine (al_asks W ob A cap m x ((hb.cell (p := ⟨ob, 0, none⟩) hob).trans hc) (h.below hb) hp hm).mono ?_
        rintro e w' ⟨rfl, rfl⟩
        exact ⟨rfl, 0, rfl⟩) (Nat.le_refl _) (by omega) (fun j hj => by
        rw [hcell j (by simpa using hj), List.getElem_map, getElem!_pos zs j hj])
    rw [List.take_length] at K
    refine K.mono ?_
    rintro e w' ⟨rfl, q, rfl⟩
    exact ⟨rfl, ((Fr.refl [] w).drewN q).all⟩

theorem any_rs (m zs : List T) : (zs.any fun x => decide (x ∈ rsS m)) = zs.any fun x => decide (x ∈ m) := by
  congr 1
  funext x
  rw [decide_eq_decide]
  exact mem_rsS m x

set_option maxRecDepth 100000 in
theorem alias_any (w : World) (A : Option Addr) (cap : Nat) (l : List MF) (a b : T) (h : FacM w A l) (hs : ∀ f ∈ l, f.f.locs.length ≤ 1000000) :
    Calls Tryz.prog 8 #[.slice A l.length cap, encStr a, encStr b] w (BP (aliasB (facs l) a b) w) := by
  have HO := Lib.hid (fun W (hb : Below w.heap.size w W) x => of_any W A cap l x (h.below hb) hs)
  have hfl : ∀ f ∈ facs l, f.locs.length ≤ 1000000 := fun f hf => by
    unfold facs at hf
    obtain ⟨x, hx, rfl⟩ := List.mem_map.1 hf
    exact hs x hx
  have hla := Lib.hid (ofL_len hfl a)
  have hlb := Lib.hid (ofL_len hfl b)
  have HOa := Lib.hid (fun W hb => HO.out W hb a)
  have HOb := Lib.hid (fun W hb => HO.out W hb b)
  have hR : Hid (aliasB (facs l) a b = (ofL (facs l) a).any fun x => decide (x ∈ rsS (ofL (facs l) b))) := Lib.hid (any_rs _ _).symm
  generalize aliasB (facs l) a b = R at *
  generalize ofL (facs l) a = la at *
  generalize ofL (facs l) b = lb at *
  have hps := Lib.hid (rsS_pw lb)
  have hrl : Hid ((rsS lb).length ≤ 1000000) := Lib.hid (Nat.le_trans (inn.rs_len lb) hlb.out)
  unfold LP at HOa HOb
  unfold BP
  clear HO h hs hfl
  generalize l.length = n at *
  go_enter Tryz.func8, Tryz.ntmps8
  go_wp2_with fail
  refine (HOb.out _ (Below.refl _ _)).mono ?_
  rintro e w1 ⟨B1, c1, rfl, r1, b1⟩
  have HS := Lib.hid (sorted_any w1 B1 c1 lb r1 hlb.out)
  have hb1 := Lib.hid b1
  unfold LP at HS
  clear HOb r1 b1
  generalize rsS lb = ls at *
  go_wp2_with fail
  refine HS.out.mono ?_
  rintro e w2 ⟨B2, c2, rfl, r2, b2⟩
  have hb2 := Lib.hid (hb1.out.trans (b2.mono hb1.out.size))
  have hr2 := Lib.hid r2
  clear HS r2 b2 hb1
  have hb3 := Lib.hid (hb2.out.trans (((Fr.refl [] w2).alloc (.cells #[.slice B2 ls.length c2] 26)).all.mono hb2.out.size))
  have hr3 := Lib.hid (hr2.out.alloc (.cells #[.slice B2 ls.length c2] 26))
  have X3 := Lib.hid (Box.new w2 26 #[.slice B2 ls.length c2])
  go_wp2_with fail
  generalize w2.alloc (.cells #[.slice B2 ls.length c2] 26) = w3 at *
  have hlt := Lib.hid X3.out.lt
  generalize w2.heap.size = ob at *
  refine (HOa.out _ hb3.out).mono ?_
  rintro e w4 ⟨B4, c4, rfl, r4, b4⟩
  have X4 := Lib.hid (X3.out.kept (Fr.of_below b4 []) (by simp))
  have HA := Lib.hid (al_any w4 ob B2 B4 c2 c4 ls la (Nat.lt_of_lt_of_le hlt.out b4.size) (X4.out.cell 0) (hr3.out.below b4) hps.out hrl.out r4 hla.out)
  rw [← hR.out] at HA
  have hb4 := Lib.hid (hb3.out.trans (b4.mono hb3.out.size))
  unfold BP at HA
  clear r4 b4 HOa X3 X4 hr2 hr3 hb2 hb3
  go_wp2_with fail
  refine HA.out.mono ?_
  rintro e w5 ⟨rfl, b5⟩
  have hb5 := Lib.hid (hb4.out.trans (b5.mono hb4.out.size))
  clear b5 HA
  go_wp2_with fail
  go_ret
  exact ⟨rfl, hb5.out⟩
end Go.Proofs.YtohdcmmkbblhkaaGreatDoor.qy

/-
  query: who may have the same place: the reference's.
-/
set_option linter.all false
namespace Go.Proofs.YtohdcmmkbblhkaaGreatDoor.qy
open Go.RowKit Go.Sort Go.Shelf Go.Proofs.YtohdcmmkbblhkaaGreatDoor.mem Go.Proofs.YtohdcmmkbblhkaaGreatDoor.wd
open Go.Proofs.YtohdcmmkbblhkaaGreatDoor.inn (rsS mem_rsS)
open Go.Proofs.YtohdcmmkbblhkaaGreatDoor.ins (numV)

theorem num_in (m : List T) (x : T) : decide (0 ≤ numV m x) = decide (x ∈ m) := by
  unfold numV
  split
  · rename_i h
    rw [decide_eq_true h]
    exact decide_eq_true (by omega)
  · rename_i h
    rw [decide_eq_false h]
    rfl
theorem any_at {zs : List T} {p : T → Bool} {k : Nat} (hk : k < zs.length) : (zs.drop k).any p = (p zs[k] || (zs.drop (k + 1)).any p) := by
  rw [List.drop_eq_getElem_cons hk, List.any_cons]

set_option maxRecDepth 100000 in
theorem ralias_any (w : World) (A : Option Addr) (cap : Nat) (l : List MF) (a b : T) (h : FacM w A l) (hs : ∀ f ∈ l, f.f.locs.length ≤ 1000000) :
    Calls Tryz.prog 9 #[.slice A l.length cap, encStr a, encStr b] w (BP (aliasB (facs l) a b) w) := by
  have HO := Lib.hid (fun W (hb : Below w.heap.size w W) x => rof_any W A cap l x (h.below hb) hs)
  have hfl : ∀ f ∈ facs l, f.locs.length ≤ 1000000 := fun f hf => by
    unfold facs at hf
    obtain ⟨x, hx, rfl⟩ := List.mem_map.1 hf
    exact hs x hx
  have hla := Lib.hid (ofL_len hfl a)
  have hlb := Lib.hid (ofL_len hfl b)
  have HOa := Lib.hid (fun W hb => HO.out W hb a)
  have HOb := Lib.hid (fun W hb => HO.out W hb b)
  have hR : Hid (aliasB (facs l) a b = (ofL (facs l) a).any fun x => decide (x ∈ ofL (facs l) b)) := Lib.hid rfl
  generalize aliasB (facs l) a b = R at *
  generalize ofL (facs l) a = la at *
  generalize ofL (facs l) b = lb at *
  unfold LP at HOa HOb
  unfold BP
  clear HO h hs hfl
  generalize l.length = n at *
  go_enter Tryz.func9, Tryz.ntmps9
  go_wp2_with fail
  refine (HOa.out _ (Below.refl _ _)).mono ?_
  rintro e w1 ⟨B1, c1, rfl, r1, b1⟩
  have hr1 := Lib.hid r1
  have hb1 := Lib.hid b1
  clear HOa r1 b1
  go_wp2_with fail
  refine (HOb.out _ hb1.out).mono ?_
  rintro e w2 ⟨B2, c2, rfl, r2, b2⟩
  have hb2 := Lib.hid (hb1.out.trans (b2.mono hb1.out.size))
  have hr2 := Lib.hid (hr1.out.below b2)
  have hq2 := Lib.hid r2
  clear HOb r2 b2 hb1 hr1
  obtain ⟨n1, hN⟩ : ∃ n1, Hid (n1 = la.length) := ⟨_, Lib.hid rfl⟩
  rw [← hN.out]
  have hn1 : n1 ≤ 1000000 := by rw [hN.out]; exact hla.out
  have h0 : Hid (R = (la.drop 0).any fun x => decide (x ∈ lb)) := Lib.hid hR.out
  have HNum := Lib.hid (fun x => ins.number_any w2 B2 c2 lb x hq2.out hlb.out)
  go_wp2_with fail
  go_loopw [9] (fun i wr => ∃ k : Nat, k ≤ n1 ∧ i = .int .i64 k ∧ Hid (R = (la.drop k).any fun x => decide (x ∈ lb)) ∧ w2 = wr) (fun i _ => n1 - (intOf i).toNat)
  case atStart => exact ⟨0, by omega, rfl, h0, rfl⟩
  case round =>
    obtain ⟨k, hk, rfl, hf, rfl⟩ := hrel
    clear h0
    by_cases hkl : k < n1
    · have e1 : decide ((k : Int) < (n1 : Int)) = true := decide_eq_true (by omega)
      have hkx : k < la.length := by rw [← hN.out]; exact hkl
      obtain ⟨g, off, rfl, hg, c0⟩ := rd_at hr2.out hkx
      have hf1 := Lib.hid (hf.out.trans (any_at hkx))
      have HK := Lib.hid (HNum.out la[k])
      have hd := Lib.hid (num_in lb la[k])
      clear hf HNum
      generalize la[k] = x at *
      generalize numV lb x = z at *
      rcases hq : decide (x ∈ lb) with _ | _
      · have d1 : decide (0 ≤ z) = false := hd.out.trans hq
        have hf2 : Hid (R = (la.drop (k + 1)).any fun x => decide (x ∈ lb)) := Lib.hid (by rw [hf1.out, hq, Bool.false_or])
        clear hf1 hd hq
        unfold encStr at c0 HK
        go_wp2_with fail
        refine HK.out.mono ?_
        rintro e w3 ⟨rfl, rfl⟩
        go_wp2_with fail
        go_roundw
        case rel => exact ⟨k + 1, by omega, by go_num, hf2, trivial⟩
        case measure => simp [intOf]; omega
      · have d1 : decide (0 ≤ z) = true := hd.out.trans hq
        have hf2 : Hid (R = true) := Lib.hid (by rw [hf1.out, hq, Bool.true_or])
        clear hf1 hd hq
        unfold encStr at c0 HK
        go_wp2_with fail
        refine HK.out.mono ?_
        rintro e w3 ⟨rfl, rfl⟩
        go_wp2_with fail
        go_ret
        exact ⟨congrArg (fun b => Ending.returned (.bool b)) hf2.out.symm, hb2.out⟩
    · obtain rfl : k = n1 := by omega
      have e1 : decide ((k : Int) < (k : Int)) = false := decide_eq_false (by omega)
      have hf2 : Hid (R = false) := Lib.hid (by rw [hf.out, hN.out, List.drop_length]; rfl)
      clear hf
      go_wp2_with fail
      go_ret
      exact ⟨congrArg (fun b => Ending.returned (.bool b)) hf2.out.symm, hb2.out⟩
end Go.Proofs.YtohdcmmkbblhkaaGreatDoor.qy

/-
  query: who has a place: both sides.
-/
set_option linter.all false
namespace Go.Proofs.YtohdcmmkbblhkaaGreatDoor.qy
open Go.RowKit Go.Sort Go.Shelf Go.Proofs.YtohdcmmkbblhkaaGreatDoor.mem Go.Proofs.YtohdcmmkbblhkaaGreatDoor.wd
open Go.Proofs.YtohdcmmkbblhkaaGreatDoor.inn (rsS mem_rsS)
open Go.Proofs.YtohdcmmkbblhkaaGreatDoor.ins (numV)

theorem bs_inj {a b : T} (h : bs a = bs b) : a = b := by
  have := congrArg (fun x : ByteArray => x.data.toList) h
  simpa [bs] using this
theorem mem_bs (l : List T) (x : T) : bs x ∈ l.map bs ↔ x ∈ l := by
  rw [List.mem_map]
  constructor
  · rintro ⟨y, hy, e⟩; rw [← bs_inj e]; exact hy
  · exact fun h => ⟨x, h, rfl⟩

theorem has_any (w : World) (A : Option Addr) (c : Nat) (l : List T) (x : T) (h : Rd w A (l.map encStr)) (hl : l.length ≤ 1000000) :
    Calls Tryz.prog 34 #[.slice A l.length c, encStr x] w fun e w' => e = .returned (.bool (decide (x ∈ l))) ∧ w = w' := by
  rcases Nat.eq_zero_or_pos l.length with h0 | h0
  · obtain rfl : l = [] := List.eq_nil_of_length_eq_zero h0
    refine (Tryz.slices_Contains_string_empty A c (bs x) w).mono ?_
    rintro e w' ⟨rfl, rfl⟩
    exact ⟨rfl, rfl⟩
  · obtain ⟨g, off, rfl, hlt, hcell⟩ := h (by simpa using h0)
    have K := Tryz.slices_Contains_string g off l.length c (l.map bs) (bs x) w (by simp) (by omega) (fun j hj => by
      rw [List.length_map] at hj
      rw [hcell j (by simpa using hj), List.getElem_map, List.getD_eq_getElem?_getD, List.getElem?_map, List.getElem?_eq_getElem hj]
      rfl)
    rw [List.take_of_length_le (by simp)] at K
    refine K.mono ?_
    rintro e w' ⟨rfl, rfl⟩
    refine ⟨?_, rfl⟩
    congr 3
    rw [Bool.eq_iff_iff, Lib.containsS_iff, decide_eq_true_eq]
    exact mem_bs l x

theorem hold_take {l : List Fa} {k : Nat} (hk : k < l.length) (p : T) : holdL (l.take (k + 1)) p = holdL (l.take k) p ++ (if p ∈ l[k].locs then [l[k].node] else []) := by
  rw [List.take_succ_eq_append_getElem hk, holdL_snoc]

set_option maxHeartbeats 1000000 in
set_option maxRecDepth 100000 in
theorem holders_any (w : World) (A : Option Addr) (cap : Nat) (l : List MF) (p : T) (h : FacM w A l) (hs : ∀ f ∈ l, f.f.locs.length ≤ 1000000) (hl : l.length ≤ 1000000) :
    Calls Tryz.prog 13 #[.slice A l.length cap, encStr p] w (LP w (holdersL (facs l) p)) := by
  have H := Lib.hid (fun W (hb : Below w.heap.size w W) => h.below hb)
  have HS := Lib.hid hs
  clear h hs
  obtain ⟨n, hN⟩ : ∃ n, Hid (n = l.length) := ⟨_, Lib.hid rfl⟩
  rw [← hN.out] at hl ⊢
  obtain ⟨F, hF⟩ : ∃ F, Hid (F = facs l) := ⟨_, Lib.hid rfl⟩
  have hFn : Hid (F.length = n) := Lib.hid (by rw [hF.out, facs_len]; exact hN.out.symm)
  rw [← hF.out]
  obtain ⟨R, hR⟩ : ∃ R, Hid (R = holdersL F p) := ⟨_, Lib.hid rfl⟩
  rw [← hR.out]
  unfold LP
  obtain ⟨i0, hi0, hz0, hz1, hz2⟩ := info_parts inn.info_str
  have Hi := Lib.hid hi0
  have Hz0 := Lib.hid hz0
  have Hz1 := Lib.hid hz1
  have Hz2 := Lib.hid hz2
  clear hi0 hz0 hz1 hz2
  go_enter Tryz.func13, Tryz.ntmps13
  have hnil : Hid (TL w w none 0 (holdL (F.take 0) p)) := Lib.hid (TL.nil (Below.refl _ _))
  go_wp2_with fail
  go_loopw [5, 10] (fun v i wr => ∃ (k : Nat) (A : Option Addr) (cap : Nat), k ≤ n ∧ i = .int .i64 k ∧ v = .slice A (holdL (F.take k) p).length cap ∧ Hid (TL w wr A cap (holdL (F.take k) p))) (fun _ i _ => n - (intOf i).toNat)
  case atStart => exact ⟨0, none, 0, by omega, rfl, rfl, hnil⟩
  case round =>
    obtain ⟨k, B, cp, hk, rfl, rfl, HT⟩ := hrel
    clear hnil
    rename World => wr
    by_cases hkl : k < n
    · have e1 : decide ((k : Int) < (n : Int)) = true := decide_eq_true (by omega)
      have hkx : k < l.length := by rw [← hN.out]; exact hkl
      have hkF : k < F.length := by rw [hFn.out]; exact hkl
      obtain ⟨g, off, rfl, hg, c0, c1⟩ := fac_at (H.out wr HT.out.fr) hkx
      have hnx := Lib.hid (hold_take hkF p)
      have hFe : Hid (F[k] = l[k].f) := Lib.hid (by
        have e := facs_at hkx
        rw [← hF.out, List.getElem?_eq_getElem hkF] at e
        exact Option.some.inj e)
      rw [hFe.out] at hnx
      have hrd := Lib.hid ((H.out wr HT.out.fr).ok l[k] (List.getElem_mem hkx)).r
      have hsz := HS.out l[k] (List.getElem_mem hkx)
      have hlen : (holdL (F.take k) p).length ≤ 1000000 := by
        have h1 := holdL_len (F.take k) p
        rw [List.length_take] at h1
        omega
      clear hFe
      obtain ⟨l2, hl2⟩ : ∃ x, Hid (x = holdL (F.take (k + 1)) p) := ⟨_, Lib.hid rfl⟩
      rw [← hl2.out] at hnx
      generalize holdL (F.take k) p = l1 at *
      generalize l[k] = y at *
      obtain ⟨⟨nd, lc⟩, yA, yc⟩ := y
      dsimp only at *
      have HT1 := Lib.hid (HT.out.alloc (.cells #[encStr nd, .slice yA lc.length yc] 48))
      have B1 := Lib.hid (Box.new wr 48 #[encStr nd, .slice yA lc.length yc])
      have HK := Lib.hid (has_any _ yA yc lc p (hrd.out.alloc (.cells #[encStr nd, .slice yA lc.length yc] 48)) hsz)
      have b0 := B1.out.cell 0
      have b1 := B1.out.cell 1
      simp only [List.getElem?_toArray, List.getElem?_cons_zero, List.getElem?_cons_succ] at b0 b1
      clear hrd HT
      by_cases hq : p ∈ lc
      · have dq : decide (p ∈ lc) = true := decide_eq_true hq
        rw [dq] at HK
        have hnx2 : Hid (l2 = l1 ++ [nd]) := Lib.hid (by rw [hnx.out, if_pos hq])
        have hl4 : Hid (l1.length + 1 = l2.length) := Lib.hid (by rw [hnx2.out, List.length_append]; rfl)
        clear hq dq hnx
        unfold encStr at c0
        go_wp2_with fail
        generalize hW : wr.alloc (.cells #[encStr nd, .slice yA lc.length yc] 48) = W at *
        clear hW c0 c1
        generalize wr.heap.size = bm at *
        unfold encStr at HK b0
        refine HK.out.mono ?_
        rintro e w4 ⟨rfl, rfl⟩
        go_wp2_with (at_builtin; refine wpList_push (u := encStr nd) rfl _ _ _ rfl (HT1.out.seg.alloc _) (by rw [List.length_map]) Tryz.underlying26 Hi.out Hz0.out Hz1.out Hz2.out rfl rfl rfl (new_cell _ _ _) rfl (by omega) (by omega) ?_; intro A7 cap7 w7 hs7 f7 hf7)
        have HT7 := Lib.hid (HT1.out.push (s := nd) hs7 f7 hf7)
        rw [← hnx2.out] at HT7
        go_roundw
        case rel => exact ⟨k + 1, A7, cap7, by omega, by go_num, by rw [hl4.out, hl2.out], by rw [hl2.out] at HT7; exact HT7⟩
        case measure => simp [intOf]; omega
      · have dq : decide (p ∈ lc) = false := decide_eq_false hq
        rw [dq] at HK
        have hnx2 : Hid (l2 = l1) := Lib.hid (by rw [hnx.out, if_neg hq, List.append_nil])
        rw [← hnx2.out] at HT1
        have hl4 : Hid (l1.length = l2.length) := Lib.hid (by rw [hnx2.out])
        clear hq dq hnx
        unfold encStr at HK b0 c0
        go_wp2_with fail
        refine HK.out.mono ?_
        rintro e w4 ⟨rfl, rfl⟩
        go_wp2_with fail
        go_roundw
        case rel => exact ⟨k + 1, B, cp, by omega, by go_num, by rw [hl4.out, hl2.out], by rw [hl2.out] at HT1; exact HT1⟩
        case measure => simp [intOf]; omega
    · obtain rfl : k = n := by omega
      have e1 : decide ((k : Int) < (k : Int)) = false := decide_eq_false (by omega)
      have hall : Hid (F.take k = F) := Lib.hid (List.take_of_length_le (by rw [hFn.out]; exact Nat.le_refl _))
      rw [hall.out] at HT
      have hll : Hid ((holdL (F.take k) p).length = (holdL F p).length) := Lib.hid (by rw [hall.out])
      have hlen : (holdL F p).length ≤ 1000000 := by
        have h1 := holdL_len F p
        rw [hFn.out] at h1
        omega
      have HK := Lib.hid (sorted_any wr B cp (holdL F p) HT.out.rd hlen)
      have hfr := Lib.hid HT.out.fr
      unfold LP at HK
      rw [show rsS (holdL F p) = R from hR.out.symm, ← hll.out] at HK
      clear HT hall hR hll
      generalize holdL (F.take k) p = l1 at *
      go_wp2_with fail
      refine HK.out.mono ?_
      rintro e w4 ⟨A4, c4, rfl, r4, b4⟩
      have fin := Lib.hid (And.intro r4 (hfr.out.trans (b4.mono hfr.out.size)))
      clear r4 b4 HK
      go_wp2_with fail
      go_ret
      exact ⟨A4, c4, rfl, fin.out.1, fin.out.2⟩

theorem rs_take {l : List T} {k : Nat} (hk : k < l.length) : rsS (l.take (k + 1)) = inn.intoS (rsS (l.take k)) l[k] := inn.rsS_snoc l k hk
theorem rs_snoc (l : List T) (x : T) : rsS (l ++ [x]) = inn.intoS (rsS l) x := inn.intoAll_snoc _ l x

set_option maxHeartbeats 1000000 in
set_option maxRecDepth 100000 in
theorem rholders_any (w : World) (A : Option Addr) (cap : Nat) (l : List MF) (p : T) (h : FacM w A l) (hs : ∀ f ∈ l, f.f.locs.length ≤ 1000000) (hl : l.length ≤ 1000000) :
    Calls Tryz.prog 14 #[.slice A l.length cap, encStr p] w (LP w (holdersL (facs l) p)) := by
  have H := Lib.hid (fun W (hb : Below w.heap.size w W) => h.below hb)
  have HS := Lib.hid hs
  clear h hs
  obtain ⟨n, hN⟩ : ∃ n, Hid (n = l.length) := ⟨_, Lib.hid rfl⟩
  rw [← hN.out] at hl ⊢
  obtain ⟨F, hF⟩ : ∃ F, Hid (F = facs l) := ⟨_, Lib.hid rfl⟩
  have hFn : Hid (F.length = n) := Lib.hid (by rw [hF.out, facs_len]; exact hN.out.symm)
  rw [← hF.out]
  obtain ⟨R, hR⟩ : ∃ R, Hid (R = holdersL F p) := ⟨_, Lib.hid rfl⟩
  rw [← hR.out]
  unfold LP
  go_enter Tryz.func14, Tryz.ntmps14
  have hnil : Hid (Seg w 9 none 0 ((holdersL (F.take 0) p).map encStr) ∧ Below w.heap.size w w) := Lib.hid ⟨Seg.nil _ _, Below.refl _ _⟩
  go_wp2_with fail
  go_loopw [5, 6] (fun v i wr => ∃ (k : Nat) (A : Option Addr) (cap : Nat), k ≤ n ∧ i = .int .i64 k ∧ v = .slice A (holdersL (F.take k) p).length cap ∧ Hid (Seg wr 9 A cap ((holdersL (F.take k) p).map encStr) ∧ Below w.heap.size w wr)) (fun _ i _ => n - (intOf i).toNat)
  case atStart => exact ⟨0, none, 0, by omega, rfl, rfl, hnil⟩
  case round =>
    obtain ⟨k, B, cp, hk, rfl, rfl, HT⟩ := hrel
    clear hnil
    rename World => wr
    by_cases hkl : k < n
    · have e1 : decide ((k : Int) < (n : Int)) = true := decide_eq_true (by omega)
      have hkx : k < l.length := by rw [← hN.out]; exact hkl
      have hkF : k < F.length := by rw [hFn.out]; exact hkl
      obtain ⟨g, off, rfl, hg, c0, c1⟩ := fac_at (H.out wr HT.out.2) hkx
      have hnx := Lib.hid (hold_take hkF p)
      have hFe : Hid (F[k] = l[k].f) := Lib.hid (by
        have e := facs_at hkx
        rw [← hF.out, List.getElem?_eq_getElem hkF] at e
        exact Option.some.inj e)
      rw [hFe.out] at hnx
      have hrd := Lib.hid ((H.out wr HT.out.2).ok l[k] (List.getElem_mem hkx)).r
      have hsz := HS.out l[k] (List.getElem_mem hkx)
      have hlen : Hid ((holdersL (F.take k) p).length ≤ 1000000) := Lib.hid (by
        have h1 := holdL_len (F.take k) p
        have h2 : (holdersL (F.take k) p).length ≤ (holdL (F.take k) p).length := inn.rs_len _
        rw [List.length_take] at h1
        omega)
      clear hFe
      have hnx1 : Hid (holdersL (F.take (k + 1)) p = if p ∈ l[k].f.locs then inn.intoS (holdersL (F.take k) p) l[k].f.node else holdersL (F.take k) p) := Lib.hid (by
        unfold holdersL
        rw [hnx.out]
        split
        · exact rs_snoc _ _
        · rw [List.append_nil])
      obtain ⟨l2, hl2⟩ : ∃ x, Hid (x = holdersL (F.take (k + 1)) p) := ⟨_, Lib.hid rfl⟩
      rw [← hl2.out] at hnx1
      clear hnx
      generalize holdersL (F.take k) p = l1 at *
      generalize l[k] = y at *
      obtain ⟨⟨nd, lc⟩, yA, yc⟩ := y
      dsimp only at *
      have HK := Lib.hid (ins.number_any wr yA yc lc p hrd.out hsz)
      have hd := Lib.hid (num_in lc p)
      generalize numV lc p = z at *
      by_cases hq : p ∈ lc
      · have d1 : decide (0 ≤ z) = true := hd.out.trans (decide_eq_true hq)
        have hnx2 : Hid (l2 = inn.intoS l1 nd) := Lib.hid (by rw [hnx1.out, if_pos hq])
        have HI := Lib.hid (inn.into_any wr B cp l1 nd HT.out.1 hlen.out)
        have hfr := Lib.hid HT.out.2
        unfold inn.IPost at HI
        rw [← hnx2.out] at HI
        clear hq hnx1 hnx2 hd hrd HT
        unfold encStr at HK c0 HI
        go_wp2_with fail
        refine HK.out.mono ?_
        rintro e w4 ⟨rfl, rfl⟩
        go_wp2_with fail
        refine HI.out.mono ?_
        rintro e w5 ⟨A5, c5, rfl, s5, b5⟩
        have fin : Hid (Seg w5 9 A5 c5 (l2.map encStr) ∧ Below w.heap.size w w5) := Lib.hid ⟨s5, hfr.out.trans (b5.mono hfr.out.size)⟩
        clear s5 b5 HI HK c0 c1
        go_wp2_with fail
        go_roundw
        case rel => exact ⟨k + 1, A5, c5, by omega, by go_num, by rw [hl2.out], by rw [hl2.out] at fin; exact fin⟩
        case measure => simp [intOf]; omega
      · have d1 : decide (0 ≤ z) = false := hd.out.trans (decide_eq_false hq)
        have hnx2 : Hid (l2 = l1) := Lib.hid (by rw [hnx1.out, if_neg hq])
        rw [← hnx2.out] at HT
        have hl4 : Hid (l1.length = l2.length) := Lib.hid (by rw [hnx2.out])
        clear hq hnx1 hd hrd
        unfold encStr at HK c0
        go_wp2_with fail
        refine HK.out.mono ?_
        rintro e w4 ⟨rfl, rfl⟩
        go_wp2_with fail
        go_roundw
        case rel => exact ⟨k + 1, B, cp, by omega, by go_num, by rw [hl4.out, hl2.out], by rw [hl2.out] at HT; exact HT⟩
        case measure => simp [intOf]; omega
    · obtain rfl : k = n := by omega
      have e1 : decide ((k : Int) < (k : Int)) = false := decide_eq_false (by omega)
      have hall : Hid (holdersL (F.take k) p = R) := Lib.hid (by rw [hR.out, List.take_of_length_le (by rw [hFn.out]; exact Nat.le_refl _)])
      rw [hall.out] at HT
      have hll : Hid ((holdersL (F.take k) p).length = R.length) := Lib.hid (by rw [hall.out])
      go_wp2_with fail
      go_ret
      exact ⟨B, cp, congrArg (fun z => Ending.returned (.slice B z cp)) hll.out, HT.out.1.rd, HT.out.2⟩
end Go.Proofs.YtohdcmmkbblhkaaGreatDoor.qy

/-
  query: what is reached: the reference's.
-/
set_option linter.all false
namespace Go.Proofs.YtohdcmmkbblhkaaGreatDoor.qy
open Go.RowKit Go.Sort Go.Shelf Go.Proofs.YtohdcmmkbblhkaaGreatDoor.mem Go.Proofs.YtohdcmmkbblhkaaGreatDoor.wd
open Go.Proofs.YtohdcmmkbblhkaaGreatDoor.inn (rsS mem_rsS intoS into_spec ordS)
open Go.Proofs.YtohdcmmkbblhkaaGreatDoor.ins (numV)
open Go.Proofs.YtohdcmmkbblhkaaGreatDoor.tj (nodup_len)

theorem into_cases (m : List T) (x : T) : (intoS m x = m ∧ x ∈ m) ∨ (intoS m x).length = m.length + 1 := by
  have h : intoS m x = if m[inn.upS m x]? = some x then m else m.take (inn.upS m x) ++ [x] ++ m.drop (inn.upS m x) := rfl
  have hk : inn.upS m x ≤ m.length := inn.tw_le _ m
  by_cases hc : m[inn.upS m x]? = some x
  · rw [if_pos hc] at h
    exact Or.inl ⟨h, List.mem_of_getElem? hc⟩
  · rw [if_neg hc] at h
    right
    rw [h, List.length_append, List.length_append, List.length_take, List.length_drop, List.length_singleton]
    omega

/-- all is from what some come to -/
def From (l : List Ed) (fr R : List T) : Prop := ∀ X : T → Prop, (∀ x ∈ fr, X x) → (∀ e ∈ l, X e.1 → X e.2) → ∀ x ∈ R, X x
theorem From.len {l : List Ed} {fr R : List T} (h : From l fr R) (hn : R.Nodup) : R.length ≤ fr.length + l.length := by
  have := nodup_len (l := R) (m := fr ++ l.map (·.2)) hn fun x hx => by
    rw [List.mem_append]
    exact h (fun x => x ∈ fr ∨ x ∈ l.map (·.2)) (fun _ h => Or.inl h) (fun e he _ => Or.inr (List.mem_map.2 ⟨e, he, rfl⟩)) x hx
  rwa [List.length_append, List.length_map] at this
theorem pw_nodup {R : List T} (h : R.Pairwise (· < ·)) : R.Nodup := h.imp (fun {a b} h e => by subst e; exact List.lt_irrefl _ h)

/-- at a round's beginning -/
structure RA (l : List Ed) (fr R : List T) : Prop where
  pw : R.Pairwise (· < ·)
  st : ∀ x ∈ fr, x ∈ R
  le : From l fr R
theorem RA.len {l : List Ed} {fr R : List T} (h : RA l fr R) : R.length ≤ fr.length + l.length := h.le.len (pw_nodup h.pw)
theorem ra_start (l : List Ed) (fr : List T) : RA l fr (rsS fr) := ⟨rsS_pw fr, fun x hx => (mem_rsS fr x).2 hx, fun X h1 _ x hx => h1 x ((mem_rsS fr x).1 hx)⟩
/-- within a round, k calls behind -/
structure RB (l : List Ed) (fr R0 R : List T) (k : Nat) : Prop where
  a : RA l fr R
  ge : R0.length ≤ R.length
  eq : R.length = R0.length → R = R0 ∧ ∀ e ∈ l.take k, e.1 ∈ R0 → e.2 ∈ R0
theorem rb_start {l : List Ed} {fr R : List T} (h : RA l fr R) : RB l fr R R 0 := ⟨h, Nat.le_refl _, fun _ => ⟨rfl, fun e he => by simp at he⟩⟩
theorem rb_no {l : List Ed} {fr R0 R : List T} {k : Nat} (h : RB l fr R0 R k) (hk : k < l.length) (hn : l[k].1 ∉ R) : RB l fr R0 R (k + 1) :=
  ⟨h.a, h.ge, fun e => ⟨(h.eq e).1, fun x hx h1 => by
    rw [List.take_succ_eq_append_getElem hk, List.mem_append, List.mem_singleton] at hx
    rcases hx with hx | rfl
    · exact (h.eq e).2 x hx h1
    · exact absurd h1 (by rw [← (h.eq e).1]; exact hn)⟩⟩
theorem rb_yes {l : List Ed} {fr R0 R : List T} {k : Nat} (h : RB l fr R0 R k) (hk : k < l.length) (hn : l[k].1 ∈ R) : RB l fr R0 (intoS R l[k].2) (k + 1) := by
  have hs := into_spec ordS R l[k].2 h.a.pw
  refine ⟨⟨hs.1, fun x hx => (hs.2 x).2 (Or.inl (h.a.st x hx)), fun X h1 h2 x hx => ?_⟩, ?_, fun e => ?_⟩
  · rcases (hs.2 x).1 hx with hx | rfl
    · exact h.a.le X h1 h2 x hx
    · exact h2 _ (List.getElem_mem hk) (h.a.le X h1 h2 _ hn)
  · rcases into_cases R l[k].2 with ⟨e, _⟩ | e
    · rw [e]; exact h.ge
    · rw [e]; have := h.ge; omega
  · rcases into_cases R l[k].2 with ⟨e1, hin⟩ | e1
    · rw [e1] at e ⊢
      refine ⟨(h.eq e).1, fun x hx hx1 => ?_⟩
      rw [List.take_succ_eq_append_getElem hk, List.mem_append, List.mem_singleton] at hx
      rcases hx with hx | rfl
      · exact (h.eq e).2 x hx hx1
      · rw [← (h.eq e).1]; exact hin
    · rw [e1] at e
      have := h.ge
      omega
theorem rb_end {l : List Ed} {fr R0 R : List T} (h : RB l fr R0 R l.length) (e : R.length = R0.length) : RS l fr R := by
  obtain ⟨rfl, h2⟩ := h.eq e
  rw [List.take_length] at h2
  exact ⟨h.a.st, h2, h.a.le⟩

def slN : Value → Nat
  | .slice _ n _ => n
  | _ => 0

/-- what is reached, handed out -/
def RePost (w : World) (l : List Ed) (fr : List T) (e : Ending) (w' : World) : Prop := ∃ A cap R, e = .returned (.slice A (List.length R) cap) ∧ Rd w' A (R.map encStr) ∧ Below w.heap.size w w' ∧ R.Pairwise (· < ·) ∧ RS l fr R ∧ R.length ≤ fr.length + l.length

set_option maxHeartbeats 4000000 in
set_option maxRecDepth 100000 in
theorem rreach_any (w : World) (A B : Option Addr) (cap c : Nat) (l : List Ed) (fr : List T) (h : EdM w A l) (hf : Rd w B (fr.map encStr)) (hl : l.length ≤ 1000) (hfl : fr.length ≤ 10000) :
    Calls Tryz.prog 22 #[.slice A l.length cap, .slice B fr.length c] w (RePost w l fr) := by
  have H := Lib.hid (fun W (hb : Below w.heap.size w W) => h.below hb)
  have HS := Lib.hid (inn.rsorted_any w B c fr hf (by omega))
  have hA0 := Lib.hid (ra_start l fr)
  have hlen : Hid (∀ R, RA l fr R → R.length ≤ 11000) := Lib.hid (fun R h => by have := h.len; omega)
  unfold inn.IPost at HS
  clear h hf
  unfold RePost
  obtain ⟨n, hN⟩ : ∃ n, Hid (n = l.length) := ⟨_, Lib.hid rfl⟩
  rw [← hN.out] at hl ⊢
  generalize rsS fr = R0 at *
  generalize hfn : fr.length = fn at *
  go_enter Tryz.func22, Tryz.ntmps22
  go_wp2_with fail
  refine HS.out.mono ?_
  rintro e w1 ⟨A1, c1, rfl, s1, b1⟩
  have hs1 : Hid (Seg w1 9 A1 c1 (R0.map encStr) ∧ Below w.heap.size w w1) := Lib.hid ⟨s1, b1⟩
  clear HS s1 b1
  go_wp2_with fail
  go_loopw [5] (fun v wr => ∃ (R : List T) (A : Option Addr) (cap : Nat), v = .slice A R.length cap ∧ Hid (RA l fr R) ∧ Hid (Seg wr 9 A cap (R.map encStr) ∧ Below w.heap.size w wr)) (fun v _ => 11000 - slN v)
  case atStart => exact ⟨R0, A1, c1, rfl, hA0, hs1⟩
  case round =>
    obtain ⟨R, A2, c2, rfl, hA, hs⟩ := hrel
    clear hA0 hs1
    rename World => wr
    have hB0 := Lib.hid (rb_start hA.out)
    have hRl := hlen.out R hA.out
    clear hA
    go_wp2_with fail
    go_loopw [5, 7] (fun v i wx => ∃ (k : Nat) (Q : List T) (A : Option Addr) (cap : Nat), k ≤ n ∧ i = .int .i64 k ∧ v = .slice A Q.length cap ∧ Hid (RB l fr R Q k) ∧ Hid (Seg wx 9 A cap (Q.map encStr) ∧ Below w.heap.size w wx)) (fun _ i _ => n - (intOf i).toNat)
    case atStart => exact ⟨0, R, A2, c2, by omega, rfl, rfl, hB0, hs⟩
    case round =>
      obtain ⟨k, Q, A3, c3, hk, rfl, rfl, hB, hs3⟩ := hrel
      clear hB0 hs
      rename World => wx
      have hQl := hlen.out Q hB.out.a
      by_cases hkl : k < n
      · have e1 : decide ((k : Int) < (n : Int)) = true := decide_eq_true (by omega)
        have hkx : k < l.length := by rw [← hN.out]; exact hkl
        obtain ⟨g, off, rfl, hg, c0, c1'⟩ := ed_at (H.out wx hs3.out.2) hkx
        have HK := Lib.hid (ins.number_any wx A3 c3 Q l[k].1 hs3.out.1.rd (by omega))
        have HI := Lib.hid (inn.into_any wx A3 c3 Q l[k].2 hs3.out.1 (by omega))
        have hd := Lib.hid (num_in Q l[k].1)
        unfold inn.IPost at HI
        by_cases hq : l[k].1 ∈ Q
        · have d1 : decide (0 ≤ numV Q l[k].1) = true := hd.out.trans (decide_eq_true hq)
          have hB2 := Lib.hid (rb_yes hB.out hkx hq)
          clear hd hq hB
          generalize numV Q l[k].1 = z at *
          generalize intoS Q l[k].2 = Q2 at *
          generalize l[k] = e at *
          obtain ⟨x, y⟩ := e
          dsimp only at *
          unfold encStr at c0 c1' HK HI
          go_wp2_with fail
          refine HK.out.mono ?_
          rintro e w4 ⟨rfl, rfl⟩
          go_wp2_with fail
          refine HI.out.mono ?_
          rintro e w5 ⟨A5, c5, rfl, s5, b5⟩
          have fin : Hid (Seg w5 9 A5 c5 (Q2.map encStr) ∧ Below w.heap.size w w5) := Lib.hid ⟨s5, hs3.out.2.trans (b5.mono hs3.out.2.size)⟩
          clear s5 b5 HI HK c0 c1' hs3
          go_wp2_with fail
          go_roundw
          case rel => exact ⟨k + 1, Q2, A5, c5, by omega, by go_num, rfl, hB2, fin⟩
          case measure => simp [intOf]; omega
        · have d1 : decide (0 ≤ numV Q l[k].1) = false := hd.out.trans (decide_eq_false hq)
          have hB2 := Lib.hid (rb_no hB.out hkx hq)
          clear hd hq hB HI
          generalize numV Q l[k].1 = z at *
          generalize l[k] = e at *
          obtain ⟨x, y⟩ := e
          dsimp only at *
          unfold encStr at c0 HK
          go_wp2_with fail
          refine HK.out.mono ?_
          rintro e w4 ⟨rfl, rfl⟩
          go_wp2_with fail
          go_roundw
          case rel => exact ⟨k + 1, Q, A3, c3, by omega, by go_num, rfl, hB2, hs3⟩
          case measure => simp [intOf]; omega
      · obtain rfl : k = n := by omega
        have e1 : decide ((k : Int) < (k : Int)) = false := decide_eq_false (by omega)
        have hge := hB.out.ge
        by_cases hq : Q.length = R.length
        · have d1 : ((Q.length : Int) == (R.length : Int)) = true := by simp [hq]
          have hr : Hid (RS l fr Q) := Lib.hid (rb_end (by have := hB.out; rwa [hN.out] at this) hq)
          have hp := Lib.hid hB.out.a.pw
          have hle : Hid (Q.length ≤ fn + k) := Lib.hid (by have h1 := hB.out.a.len; have h2 := hN.out; omega)
          clear hB
          go_wp2_with fail
          go_ret
          exact ⟨A3, c3, Q, rfl, hs3.out.1.rd, hs3.out.2, hp.out, hr.out, hle.out⟩
        · have d1 : ((Q.length : Int) == (R.length : Int)) = false := by simp; omega
          have hA2 := Lib.hid hB.out.a
          clear hB
          go_wp2_with fail
          go_roundw
          case rel => exact ⟨Q, A3, c3, rfl, hA2, hs3⟩
          case measure => simp [slN]; omega
end Go.Proofs.YtohdcmmkbblhkaaGreatDoor.qy
