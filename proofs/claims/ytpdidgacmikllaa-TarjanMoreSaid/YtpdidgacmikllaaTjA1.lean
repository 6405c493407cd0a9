/-
  tarjan: the reference's parts: the walks.
-/
import Derived.Test.YtpdidgacmikllaaTj9
import Derived.Test.YtpdidgacmikllaaTjO
import Derived.Test.YtpdidgacmikllaaTjK
namespace Go.Proofs.Ytpdidgacmikllaa.tj
open Go.RowKit Go.Proofs.Ytpdidgacmikllaa.mem

theorem MX.hd {W : World} {n0 mb : Nat} {bi : Nat → Nat} {n : Nat} {M : Nat → Nat → Bool} (h : MX W n0 mb bi n n M) {i : Nat} (hn : i < n) : W.cell? ⟨mb, i, none⟩ = some (.slice (some ⟨bi i, 0, none⟩) n n) := (h.bx.cell i).trans (mh_at _ hn hn)
theorem MX.at_ {W : World} {n0 mb : Nat} {bi : Nat → Nat} {n : Nat} {M : Nat → Nat → Bool} (h : MX W n0 mb bi n n M) {i j : Nat} (hi : i < n) (hj : j < n) : W.cell? ⟨bi i, j, none⟩ = some (.bool (M i j)) := ((h.rw_ i hi).cell j).trans (bv_at _ hj)

def FePost (b : Bool) (w : World) (e : Ending) (W : World) : Prop := e = .returned (.bool b) ∧ w = W

/-- as far as j -/
def G.freeTo (g : G) (done : Nat → Bool) (i j : Nat) : Prop := ∀ c, c < j → g.R i c = true → g.R c i = false → done c = true

set_option maxRecDepth 100000 in
theorem free_any (g : G) (hn : g.n ≤ 100) (w : World) (n0 mb : Nat) (bi : Nat → Nat) (h : MX w n0 mb bi g.n g.n g.R) (db : Nat) (done : Nat → Bool) (hd : Box w db 4 (bv done g.n)) (i : Nat) (hi : i < g.n) :
    Calls Try.prog 24 #[.slice (some ⟨mb, 0, none⟩) g.n g.n, .slice (some ⟨db, 0, none⟩) g.n g.n, .int .i64 (i : Nat)] w (FePost (g.free done i) w) := by
  have H := Lib.hid h
  have HD := Lib.hid hd
  obtain ⟨n, hN⟩ : ∃ n, Hid (g.n = n) := ⟨_, Lib.hid rfl⟩
  have hn' : n ≤ 100 := by rw [← hN.out]; exact hn
  have hi' : i < n := by rw [← hN.out]; exact hi
  have hiI : (i : Int) < (n : Int) := by omega
  have hh := h.hd hi
  obtain ⟨r, hr⟩ : ∃ r, Hid (g.free done i = r) := ⟨_, Lib.hid rfl⟩
  rw [hr.out]
  rw [hN.out] at hh ⊢
  clear h hd hn hi
  go_enter Try.func24, Try.ntmps24
  go_wp2_with fail
  go_loop [7] (fun s => ∃ j : Nat, j ≤ n ∧ s = .int .i64 j ∧ Hid (g.freeTo done i j)) (fun s => n - (intOf s).toNat)
  case atStart => exact ⟨0, by omega, rfl, Lib.hid (fun c hc => by omega)⟩
  case round =>
    obtain ⟨j, hj, rfl, hf⟩ := hrel
    by_cases hjn : j < n
    · have d1 : decide ((j : Int) < (n : Int)) = true := decide_eq_true (by omega)
      have hjI : (j : Int) < (n : Int) := by omega
      have hjg : j < g.n := by rw [hN.out]; exact hjn
      have hig : i < g.n := by rw [hN.out]; exact hi'
      have hh2 := H.out.hd hjg
      have c1 := H.out.at_ hig hjg
      have c2 := H.out.at_ hjg hig
      have c3 := (HD.out.cell j).trans (bv_at _ hjg)
      rw [hN.out] at hh2
      have hno : Hid (g.R i j = true → g.R j i = false → done j = false → r = false) := Lib.hid (fun a b c => by
        rw [← hr.out, Bool.eq_false_iff]
        intro hfr
        have := g.free_iff.1 hfr j hjg a b
        rw [c] at this
        cases this)
      have hyes : Hid ((g.R i j = true → g.R j i = false → done j = true) → g.freeTo done i (j + 1)) := Lib.hid (fun h c hc a b => by
        by_cases e : c = j
        · subst e; exact h a b
        · exact hf.out c (by omega) a b)
      clear hjg hig hf
      generalize g.R i j = u at *
      generalize g.R j i = v at *
      generalize done j = x at *
      cases u with
      | false =>
        have hf2 := Lib.hid (hyes.out (fun a => by cases a))
        clear hno hyes
        go_wp2_with fail
        go_round
        case rel => exact ⟨j + 1, by omega, by go_num, hf2⟩
        case measure => simp [intOf]; omega
      | true =>
        cases v with
        | true =>
          have hf2 := Lib.hid (hyes.out (fun _ a => by cases a))
          clear hno hyes
          go_wp2_with fail
          go_round
          case rel => exact ⟨j + 1, by omega, by go_num, hf2⟩
          case measure => simp [intOf]; omega
        | false =>
          cases x with
          | true =>
            have hf2 := Lib.hid (hyes.out (fun _ _ => rfl))
            clear hno hyes
            go_wp2_with fail
            go_round
            case rel => exact ⟨j + 1, by omega, by go_num, hf2⟩
            case measure => simp [intOf]; omega
          | false =>
            have hf2 : Hid (FePost r w (.returned (.bool false)) w) := Lib.hid ⟨by rw [hno.out rfl rfl rfl], rfl⟩
            clear hno hyes
            go_wp2_with fail
            go_ret
            exact hf2.out
    · obtain rfl : j = n := by omega
      have d1 : decide ((j : Int) < (j : Int)) = false := decide_eq_false (by omega)
      have hf1 : r = true := by
        rw [← hr.out, g.free_iff]
        intro c hc a b
        exact hf.out c (by rw [hN.out] at hc; exact hc) a b
      have hf2 : Hid (FePost r w (.returned (.bool true)) w) := Lib.hid ⟨by rw [hf1], rfl⟩
      clear hf hf1
      go_wp2_with fail
      go_ret
      exact hf2.out

theorem seg_ne {w : World} {e e' : TypeId} {A B : Option Addr} {c d : Nat} {xs ys : List Value} (h : Seg w e A c xs) (k : Seg w e' B d ys) (hne : e ≠ e') : ∀ g ∈ blk A, g ∉ blk B := by
  intro g hg hg2
  cases A with
  | none => cases hg
  | some a =>
    cases B with
    | none => cases hg2
    | some b =>
      simp only [blk, List.mem_singleton] at hg hg2
      obtain ⟨_, cur, hc, _⟩ := h.2.2.2 a rfl
      obtain ⟨_, cur2, hc2, _⟩ := k.2.2.2 b rfl
      rw [← hg] at hc
      rw [← hg2, hc] at hc2
      injection hc2 with hc2
      injection hc2 with _ h2
      exact hne h2

/-- between two parts -/
structure RQ (w W : World) (g : G) (mb : Nat) (bi : Nat → Nat) (db : Nat) (done : Nat → Bool) (Ao : Option Addr) (co : Nat) (rows : List Row) : Prop where
  mx : MX W w.heap.size mb bi g.n g.n g.R
  nb : ∀ i, i < g.n → bi i ≠ db
  dn : Box W db 4 (bv done g.n)
  gd_ : w.heap.size ≤ db
  so : Seg W 32 Ao co (rows.map hdr)
  go : ∀ x ∈ blk Ao, w.heap.size ≤ x
  rw_ : ∀ r ∈ rows, Seg W 3 r.A r.cap (natI r.xs)
  on : Below w.heap.size w W

/-- in the midst of a part -/
structure RP (w wS W : World) (g : G) (mb : Nat) (bi : Nat → Nat) (db : Nat) (done : Nat → Bool) (Ao : Option Addr) (co : Nat) (rows : List Row) (i j : Nat) (Ap : Option Addr) (cp : Nat) (p : List Nat) : Prop where
  q : RQ w wS g mb bi db done Ao co rows
  fr : Fr [db] wS W
  dn : Box W db 4 (bv (fun c => done c || (decide (c < j) && g.Q i c)) g.n)
  sp : Seg W 3 Ap cp (natI p)
  gp : ∀ x ∈ blk Ap, wS.heap.size ≤ x
  pe : p = (List.range j).filter fun c => g.Q i c

section
variable {w wS W : World} {g : G} {mb : Nat} {bi : Nat → Nat} {db : Nat} {done : Nat → Bool} {Ao : Option Addr} {co : Nat} {rows : List Row} {i j : Nat} {Ap : Option Addr} {cp : Nat} {p : List Nat}

theorem RP.mx (h : RP w wS W g mb bi db done Ao co rows i j Ap cp p) : MX W w.heap.size mb bi g.n g.n g.R := by
  have m := h.q.mx
  have hdb : mb ≠ db := fun e => by
    have h1 := m.bx
    rw [e] at h1
    have := h1.symm.trans h.q.dn
    simp at this
  exact ⟨m.bx.kept h.fr (by simpa using hdb), fun q hq => (m.rw_ q hq).kept h.fr (by simpa using h.q.nb q hq), m.inj, m.gb, m.ge⟩

theorem RQ.start (h : RQ w W g mb bi db done Ao co rows) (i : Nat) : RP w W W g mb bi db done Ao co rows i 0 none 0 [] :=
  ⟨h, Fr.refl _ _, by simpa using h.dn, Seg.nil _ _, fun x hx => (by cases hx), rfl⟩

theorem RP.skip (h : RP w wS W g mb bi db done Ao co rows i j Ap cp p) (hq : g.Q i j = false) : RP w wS W g mb bi db done Ao co rows i (j + 1) Ap cp p := by
  refine ⟨h.q, h.fr, ?_, h.sp, h.gp, ?_⟩
  · have := h.dn
    rwa [bv_congr (f' := fun c => done c || (decide (c < j + 1) && g.Q i c)) (fun c _ => by
      by_cases e : c = j
      · subst e; simp [hq]
      · have : (decide (c < j + 1)) = decide (c < j) := by simp; omega
        simp [this])] at this
  · rw [List.range_succ, List.filter_append, ← h.pe]
    simp [hq]

/-- a member more -/
theorem RP.take (h : RP w wS W g mb bi db done Ao co rows i j Ap cp p) (hq : g.Q i j = true) {A' : Option Addr} {c' : Nat} {W1 : World} (hs : Seg W1 3 A' c' (natI p ++ [.int .i64 (j : Nat)])) (f : Fr (blk Ap) W W1) (b : ∀ g ∈ blk A', g ∈ blk Ap ∨ W.heap.size ≤ g) :
    RP w wS (W1.setCell ⟨db, j, none⟩ (.bool true)) g mb bi db done Ao co rows i (j + 1) A' c' (p ++ [j]) ∧ (∃ v, W1.cell? ⟨db, j, none⟩ = some v ∨ ¬ j < g.n) ∧ W1.frozen? ⟨db, j, none⟩ = false := by
  have hdA : db ∉ blk Ap := h.sp.ne_box h.dn (by decide)
  have hdn1 : Box W1 db 4 (bv (fun c => done c || (decide (c < j) && g.Q i c)) g.n) := h.dn.kept f hdA
  have hf2 : Fr [db] W1 (W1.setCell ⟨db, j, none⟩ (.bool true)) := (Fr.refl _ _).setCell (Or.inl (by simp)) _
  have hdA' : db ∉ blk A' := hs.ne_box hdn1 (by decide)
  refine ⟨⟨h.q, ?_, ?_, ?_, fun x hx => ?_, ?_⟩, ?_, hdn1.free j⟩
  · refine (h.fr.trans f (G := [db]) (fun g hg => Or.inl hg) (fun g hg => Or.inr (h.gp g hg))).trans hf2 (fun g hg => Or.inl hg) (fun g hg => Or.inl hg)
  · have := hdn1.put j (.bool true)
    rw [bv_set] at this
    rwa [bv_congr (f' := fun c => done c || (decide (c < j + 1) && g.Q i c)) (fun c _ => by
      by_cases e : c = j
      · subst e; rw [upd_same]; simp [hq]
      · have : (decide (c < j + 1)) = decide (c < j) := by simp; omega
        rw [upd_ne _ _ e]; simp [this])] at this
  · rw [← natI_snoc]
    exact hs.kept hf2 (fun g hg e => by rw [List.mem_singleton] at e; subst e; exact hdA' hg)
  · rcases b x hx with e | e
    · exact h.gp x e
    · exact Nat.le_trans h.fr.size e
  · rw [List.range_succ, List.filter_append, ← h.pe]
    simp [hq]
  · by_cases hj : j < g.n
    · exact ⟨_, Or.inl ((hdn1.cell j).trans (bv_at _ hj))⟩
    · exact ⟨.bool true, Or.inr hj⟩

/-- the part is told -/
theorem RP.close (h : RP w wS W g mb bi db done Ao co rows i g.n Ap cp p) {A' : Option Addr} {c' : Nat} {W1 : World} (hs : Seg W1 32 A' c' (rows.map hdr ++ [hdr ⟨Ap, cp, p⟩])) (f : Fr (blk Ao) W W1) (b : ∀ g ∈ blk A', g ∈ blk Ao ∨ W.heap.size ≤ g) :
    RQ w W1 g mb bi db (g.add done i) A' c' (rows ++ [⟨Ap, cp, p⟩]) ∧ p = g.cls i := by
  have hso : Seg W 32 Ao co (rows.map hdr) := h.q.so.kept h.fr (fun x hx e => by rw [List.mem_singleton] at e; subst e; exact (h.q.so.ne_box h.q.dn (by decide)) hx)
  have hrw : ∀ r ∈ rows, Seg W 3 r.A r.cap (natI r.xs) := fun r hr => (h.q.rw_ r hr).kept h.fr (fun x hx e => by rw [List.mem_singleton] at e; subst e; exact ((h.q.rw_ r hr).ne_box h.q.dn (by decide)) hx)
  have m := h.mx
  have hon : Below w.heap.size w W := h.q.on.trans (h.fr.below (fun x hx => by rw [List.mem_singleton] at hx; subst hx; exact h.q.gd_) h.q.on.size)
  refine ⟨⟨⟨m.bx.kept f (hso.ne_box m.bx (by decide)), fun q hq => (m.rw_ q hq).kept f (hso.ne_box (m.rw_ q hq) (by decide)), m.inj, m.gb, m.ge⟩, h.q.nb, ?_, h.q.gd_, by rw [List.map_append]; exact hs, fun x hx => ?_, fun r hr => ?_, hon.trans (f.below h.q.go hon.size)⟩, h.pe⟩
  · have := h.dn.kept f (hso.ne_box h.dn (by decide))
    rwa [bv_congr (f' := g.add done i) (fun c hc => by simp [G.add, hc])] at this
  · rcases b x hx with e | e
    · exact h.q.go x e
    · have := hon.size; omega
  · rcases List.mem_append.1 hr with hr | hr
    · exact (hrw r hr).kept f (seg_ne (hrw r hr) hso (by decide))
    · rw [List.mem_singleton] at hr
      subst hr
      exact h.sp.kept f (seg_ne h.sp hso (by decide))
end

theorem G.ord_none (g : G) {done : Nat → Bool} (h : g.next done = none) : ∀ f, g.ord f done = []
  | 0 => rfl
  | f + 1 => by simp [G.ord, h]
theorem G.ord_some (g : G) {done : Nat → Bool} {i : Nat} (h : g.next done = some i) (f : Nat) : g.ord (f + 1) done = g.cls i :: g.ord f (g.add done i) := by simp [G.ord, h]
end Go.Proofs.Ytpdidgacmikllaa.tj
