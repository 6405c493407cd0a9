import Derived.Test.YtdmmkjijgoiecaaW7
import Derived.Test.YtdmmkjijgoiecaaWLReA
set_option linter.all false
/-
  record: plain: what is written is read, and what is read is written so.
-/
namespace Go.Proofs.Ytdmmkjijgoiecaa.re
open Go.RowKit Go.Proofs.Ytdmmkjijgoiecaa.mem Go.Proofs.Ytdmmkjijgoiecaa.sy Go.Proofs.Ytdmmkjijgoiecaa.vr Go.Proofs.Ytdmmkjijgoiecaa.po

def evV (m : List (List UInt8)) : Ev → Nat
  | .n k => k.toNat
  | .t s => m.idxOf (tx s)
def okEv (m : List (List UInt8)) : Ev → Prop
  | .n k => 0 ≤ k ∧ k ≤ 268435456
  | .t s => tx s ∈ m ∧ m.idxOf (tx s) ≤ 268435456
def evB (m : List (List UInt8)) (e : Ev) : List UInt8 := nb (evV m e)
def bsE (m : List (List UInt8)) (l : List Ev) : List UInt8 := l.flatMap (evB m)

theorem bsE_app (m : List (List UInt8)) (a b : List Ev) : bsE m (a ++ b) = bsE m a ++ bsE m b := List.flatMap_append
theorem bsE_one (m : List (List UInt8)) (e : Ev) : bsE m [e] = evB m e := by simp [bsE]

theorem step_ok {m : List (List UInt8)} {e : Ev} (h : okEv m e) (st : List UInt8) : stepE m (st, 0) e = (st ++ evB m e, 0) := by
  cases e with
  | n k =>
    obtain ⟨h1, h2⟩ := h
    show putN (st, 0) k = _
    unfold putN
    rw [if_neg (by simp), if_neg (by omega)]
    rfl
  | t s =>
    obtain ⟨h1, h2⟩ := h
    show putW m (st, 0) s = _
    have e1 : errT m (st, 0) s = (st, 0) := by unfold errT; rw [if_neg (by simp [h1])]
    unfold putW
    rw [e1, if_pos h1]
    unfold putN
    rw [if_neg (by simp), if_neg (by omega)]
    rfl
theorem step_bad {m : List (List UInt8)} {e : Ev} {st : List UInt8 × Int} (h : (stepE m st e).2 = 0) : st.2 = 0 ∧ okEv m e := by
  cases e with
  | n k =>
    have h : (putN st k).2 = 0 := h
    unfold putN at h
    split at h
    · contradiction
    · rename_i h0
      split at h
      · simp at h
      · rename_i h1
        exact ⟨by simpa using h0, by show 0 ≤ k ∧ k ≤ 268435456; omega⟩
  | t s =>
    have h : (putW m st s).2 = 0 := h
    unfold putW at h
    by_cases h0 : st.2 = 0
    · by_cases h1 : tx s ∈ m
      · have e1 : errT m st s = st := by unfold errT; rw [if_neg (by simp [h1])]
        rw [e1, if_pos h1] at h
        unfold putN at h
        rw [if_neg (by simpa using h0)] at h
        split at h
        · simp at h
        · rename_i h2
          exact ⟨h0, h1, by omega⟩
      · have e1 : errT m st s = (st.1, 7) := by unfold errT; rw [if_pos ⟨h0, h1⟩]
        rw [e1] at h
        unfold putN at h
        rw [if_pos (by simp)] at h
        simp at h
    · have e1 : errT m st s = st := by unfold errT; rw [if_neg (fun x => h0 x.1)]
      rw [e1] at h
      unfold putN at h
      rw [if_pos h0] at h
      contradiction
theorem fold_ok {m : List (List UInt8)} : ∀ (l : List Ev) (st : List UInt8), (∀ e ∈ l, okEv m e) → l.foldl (stepE m) (st, 0) = (st ++ bsE m l, 0)
  | [], st, _ => by simp [bsE]
  | e :: l, st, h => by
    rw [List.foldl_cons, step_ok (h e (List.mem_cons_self ..)), fold_ok l _ (fun x hx => h x (List.mem_cons_of_mem _ hx))]
    simp [bsE]
theorem fold_bad {m : List (List UInt8)} : ∀ (l : List Ev) (st : List UInt8 × Int), (l.foldl (stepE m) st).2 = 0 → st.2 = 0 ∧ ∀ e ∈ l, okEv m e
  | [], st, h => ⟨h, fun e he => by cases he⟩
  | e :: l, st, h => by
    rw [List.foldl_cons] at h
    obtain ⟨h1, h2⟩ := fold_bad l _ h
    obtain ⟨h3, h4⟩ := step_bad h1
    refine ⟨h3, fun x hx => ?_⟩
    rcases List.mem_cons.1 hx with rfl | hx
    · exact h4
    · exact h2 x hx

def dr (S : ByteArray) (p : Nat) : List UInt8 := S.data.toList.drop p
theorem dr_add (S : ByteArray) (p n : Nat) : dr S (p + n) = (dr S p).drop n := by unfold dr; rw [List.drop_drop]
theorem dr_app {S : ByteArray} {p : Nat} {a r : List UInt8} (h : dr S p = a ++ r) : dr S (p + a.length) = r := by
  rw [dr_add, h, List.drop_left]

theorem n_fw {S : ByteArray} {p k : Nat} {r : List UInt8} (h : dr S p = nb k ++ r) (hk : k ≤ 268435456) : nV S p 0 = k ∧ nP S p 0 = p + (nb k).length ∧ nE S p 0 = 0 := by
  have e : ct S p = (k, (nb k).length, 0) := by
    unfold ct
    unfold dr at h
    rw [h]
    exact cnt_nb k r hk
  unfold nV nP nE
  rw [e]
  simp
theorem n_bk {S : ByteArray} {p : Nat} (hp : p ≤ S.size) (h : nE S p 0 = 0) : dr S p = nb (nV S p 0) ++ dr S (nP S p 0) ∧ nV S p 0 ≤ 268435456 := by
  have hl := nV_le S p 0 hp
  unfold nE at h
  rw [if_neg (by simp)] at h
  obtain ⟨r, h1, h2⟩ := nb_of_cnt (dr S p) (ct S p).1 (ct S p).2.1 (by
    show ct S p = _
    have : (ct S p).2.2 = 0 := by exact_mod_cast h
    rw [← this])
  have hv : nV S p 0 = (ct S p).1 := by unfold nV; rw [if_neg (by simp)]
  have hq : nP S p 0 = p + (nb (ct S p).1).length := by unfold nP; rw [if_neg (by simp), h2]
  rw [hv, hq, dr_app h1]
  rw [hv] at hl
  exact ⟨h1, hl⟩

/-- a reading function: it reads what events write, and what it reads is written so -/
structure Rds (m : List (List UInt8)) (S : ByteArray) {α : Type} (one : Nat → Int → α × Nat × Int) (ev : α → List Ev) (Fit : α → Prop) : Prop where
  okp : Okp S one
  st : ∀ q e, e ≠ 6 → e ≠ 0 → (one q e).2.2 = e
  bk : ∀ q, q ≤ S.size → (one q 0).2.2 = 0 → dr S q = bsE m (ev (one q 0).1) ++ dr S (one q 0).2.1 ∧ ∀ e ∈ ev (one q 0).1, okEv m e
  fw : ∀ a q r, q ≤ S.size → Fit a → (∀ e ∈ ev a, okEv m e) → dr S q = bsE m (ev a) ++ r → one q 0 = (a, q + (bsE m (ev a)).length, 0)

section
variable {m : List (List UInt8)} {S : ByteArray} {α β : Type}

def seqR (f : Nat → Int → α × Nat × Int) (g : Nat → Int → β × Nat × Int) (q : Nat) (e : Int) : (α × β) × Nat × Int := (((f q e).1, (g (f q e).2.1 (f q e).2.2).1), (g (f q e).2.1 (f q e).2.2).2)

theorem Rds.seq {f : Nat → Int → α × Nat × Int} {g : Nat → Int → β × Nat × Int} {ef : α → List Ev} {eg : β → List Ev} {Ff : α → Prop} {Fg : β → Prop} (hf : Rds m S f ef Ff) (hg : Rds m S g eg Fg) : Rds m S (seqR f g) (fun p => ef p.1 ++ eg p.2) (fun p => Ff p.1 ∧ Fg p.2) := by
  refine ⟨fun q e hq he => ?_, fun q e h6 h0 => ?_, fun q hq h => ?_, fun a q r hq hF hk hd => ?_⟩
  · obtain ⟨a1, a2⟩ := hf.okp q e hq he
    exact hg.okp _ _ a1 a2
  · show (g (f q e).2.1 (f q e).2.2).2.2 = e
    have h1 := hf.st q e h6 h0
    rw [h1]
    exact hg.st _ e h6 h0
  · have h : (g (f q 0).2.1 (f q 0).2.2).2.2 = 0 := h
    obtain ⟨a1, a2⟩ := hf.okp q 0 hq (by decide)
    have e1 : (f q 0).2.2 = 0 := by
      rcases Classical.em ((f q 0).2.2 = 0) with e | e
      · exact e
      · have := hg.st (f q 0).2.1 _ a2 e
        rw [h] at this
        exact absurd this.symm e
    obtain ⟨b1, b2⟩ := hf.bk q hq e1
    rw [e1] at h
    obtain ⟨c1, c2⟩ := hg.bk _ a1 h
    have hs1 : (seqR f g q 0).1 = ((f q 0).1, (g (f q 0).2.1 0).1) := by unfold seqR; rw [e1]
    have hs2 : (seqR f g q 0).2.1 = (g (f q 0).2.1 0).2.1 := by unfold seqR; rw [e1]
    rw [hs1, hs2]
    refine ⟨?_, fun e he => ?_⟩
    · show dr S q = bsE m (ef (f q 0).1 ++ eg (g (f q 0).2.1 0).1) ++ _
      rw [bsE_app, List.append_assoc, ← c1, ← b1]
    · rcases List.mem_append.1 he with he | he
      · exact b2 e he
      · exact c2 e he
  · obtain ⟨a, b⟩ := a
    have hd : dr S q = bsE m (ef a ++ eg b) ++ r := hd
    rw [bsE_app, List.append_assoc] at hd
    have h1 := hf.fw a q _ hq hF.1 (fun e he => hk e (List.mem_append.2 (Or.inl he))) hd
    have hq1 : q + (bsE m (ef a)).length ≤ S.size := by
      have := (hf.okp q 0 hq (by decide)).1
      rw [h1] at this
      exact this
    have h2 := hg.fw b _ r hq1 hF.2 (fun e he => hk e (List.mem_append.2 (Or.inr he))) (dr_app hd)
    show seqR f g q 0 = _
    unfold seqR
    rw [h1]
    dsimp only
    rw [h2, bsE_app, List.length_append, Nat.add_assoc]

theorem Rds.map {one : Nat → Int → α × Nat × Int} {one' : Nat → Int → β × Nat × Int} {ev : α → List Ev} {ev' : β → List Ev} {Fit : α → Prop} {Fit' : β → Prop} (h : Rds m S one ev Fit) (φ : α → β) (ψ : β → α) (h1 : ∀ q e, one' q e = (φ (one q e).1, (one q e).2)) (h2 : ∀ b, φ (ψ b) = b) (h3 : ∀ a, ev' (φ a) = ev a) (h4 : ∀ b, Fit' b → Fit (ψ b)) : Rds m S one' ev' Fit' := by
  refine ⟨fun q e hq he => ?_, fun q e h6 h0 => ?_, fun q hq hh => ?_, fun b q r hq hF hk hd => ?_⟩
  · rw [h1]; exact h.okp q e hq he
  · rw [h1]; exact h.st q e h6 h0
  · rw [h1] at hh ⊢
    dsimp only at hh ⊢
    rw [h3]
    exact h.bk q hq hh
  · have e1 : ev' b = ev (ψ b) := by rw [← h3, h2]
    rw [e1] at hk hd ⊢
    rw [h1, h.fw (ψ b) q r hq (h4 b hF) hk hd, h2]

def oneN (S : ByteArray) (q : Nat) (e : Int) : Int × Nat × Int := ((nV S q e : Nat), nP S q e, nE S q e)

theorem rN (m : List (List UInt8)) (S : ByteArray) : Rds m S (oneN S) (fun k => [.n k]) (fun _ => True) := by
  refine ⟨fun q e hq he => ⟨nP_in S q e hq, nE_ok S q e he⟩, fun q e h6 h0 => ?_, fun q hq h => ?_, fun a q r hq _ hk hd => ?_⟩
  · show nE S q e = e
    unfold nE
    rw [if_pos h0]
  · obtain ⟨h1, h2⟩ := n_bk hq h
    refine ⟨?_, fun e he => ?_⟩
    · rw [bsE_one]
      exact h1
    · rw [List.mem_singleton] at he
      subst he
      exact ⟨Int.natCast_nonneg _, by show ((nV S q 0 : Nat) : Int) ≤ _; omega⟩
  · have hk := hk (.n a) (by simp)
    obtain ⟨k1, k2⟩ := hk
    rw [bsE_one] at hd ⊢
    obtain ⟨h1, h2, h3⟩ := n_fw (k := a.toNat) hd (by omega)
    unfold oneN
    rw [h1, h2, h3]
    refine Prod.ext ?_ rfl
    show ((a.toNat : Nat) : Int) = a
    omega

theorem idxr : ∀ (m : List (List UInt8)) (k : Nat) (hk : k < m.length), m.Pairwise (fun a b => a < b) → m.idxOf m[k] = k
  | [], k, hk, _ => by simp at hk
  | y :: m, 0, hk, _ => by simp
  | y :: m, k + 1, hk, hp => by
    have hp' := List.pairwise_cons.1 hp
    have hk' : k < m.length := by simpa using hk
    have hne : y ≠ m[k] := fun e => by
      have h := hp'.1 m[k] (List.getElem_mem hk')
      rw [← e] at h
      exact List.lt_irrefl y h
    have ih := idxr m k hk' hp'.2
    rw [List.getElem_cons_succ, List.idxOf_cons, show (y == m[k]) = false by simpa using hne]
    simpa using ih

theorem rT (hm : m.Pairwise (fun a b => a < b)) : Rds m S (oneT m S) (fun t => [.t t]) (fun _ => True) := by
  refine ⟨ok_T m S, fun q e h6 h0 => ?_, fun q hq h => ?_, fun a q r hq _ hk hd => ?_⟩
  · have hE : nE S q e = e := by unfold nE; rw [if_pos h0]
    have := (tN_bad (m := m) h6 (by rw [hE]; exact h0)).1
    rw [hE] at this
    exact this
  · have h : tN m S q 0 = 0 := h
    have hE : nE S q 0 = 0 := by
      rcases Classical.em (nE S q 0 = 0) with e | e
      · exact e
      · have := (tN_bad (m := m) (p := q) (s := S) (er := 0) (by decide) e).1
        rw [h] at this
        exact absurd this.symm e
    have hn : nV S q 0 < m.length := by
      rcases Classical.em (nV S q 0 < m.length) with e | e
      · exact e
      · have := (tN_out hE e).1
        rw [h] at this
        exact absurd this (by decide)
    obtain ⟨_, hT⟩ := tN_in hE hn
    obtain ⟨h1, h2⟩ := n_bk hq hE
    have hi := idxr m _ hn hm
    have hx : tx (tT m S q 0) = m[nV S q 0] := by rw [hT]
    have hbo : evB m (.t (tT m S q 0)) = nb (nV S q 0) := by
      show nb (m.idxOf (tx (tT m S q 0))) = _
      rw [hx, hi]
    refine ⟨?_, fun e he => ?_⟩
    · show dr S q = bsE m [.t (tT m S q 0)] ++ dr S (nP S q 0)
      rw [bsE_one, hbo]
      exact h1
    · have he : e ∈ [Ev.t (tT m S q 0)] := he
      rw [List.mem_singleton] at he
      subst he
      show tx (tT m S q 0) ∈ m ∧ m.idxOf (tx (tT m S q 0)) ≤ 268435456
      rw [hx, hi]
      exact ⟨List.getElem_mem hn, h2⟩
  · obtain ⟨k1, k2⟩ := hk (.t a) (by simp)
    rw [bsE_one] at hd ⊢
    obtain ⟨h1, h2, h3⟩ := n_fw (k := m.idxOf (tx a)) hd k2
    have hlt : nV S q 0 < m.length := by rw [h1]; exact List.idxOf_lt_length_of_mem k1
    obtain ⟨g1, g2⟩ := tN_in h3 hlt
    have g3 : m[nV S q 0] = tx a := by
      simp only [h1]
      exact List.getElem_idxOf _
    show (tT m S q 0, nP S q 0, tN m S q 0) = _
    rw [g1, g2, g3, h2]
    rfl
end
end Go.Proofs.Ytdmmkjijgoiecaa.re

/-
  record: plain: lists, elements, summaries: written and read.
-/
namespace Go.Proofs.Ytdmmkjijgoiecaa.re
open Go.RowKit Go.Proofs.Ytdmmkjijgoiecaa.mem Go.Proofs.Ytdmmkjijgoiecaa.sy Go.Proofs.Ytdmmkjijgoiecaa.vr Go.Proofs.Ytdmmkjijgoiecaa.po

section
variable {m : List (List UInt8)} {S : ByteArray} {α : Type}

theorem go_bk {one : Nat → Int → α × Nat × Int} {ev : α → List Ev} {Fit : α → Prop} (h : Rds m S one ev Fit) : ∀ (k q : Nat), q ≤ S.size → (goL one k q 0).2.2 = 0 → (dr S q = bsE m ((goL one k q 0).1.flatMap ev) ++ dr S (goL one k q 0).2.1 ∧ ∀ e ∈ (goL one k q 0).1.flatMap ev, okEv m e) ∧ (goL one k q 0).1.length = k
  | 0, q, hq, hh => ⟨⟨by simp [goL, bsE], fun e he => by simp [goL] at he⟩, by simp [goL]⟩
  | k + 1, q, hq, hh => by
    rw [go_step] at hh ⊢
    dsimp only at hh ⊢
    obtain ⟨a1, a2⟩ := h.okp q 0 hq (by decide)
    have e1 : (one q 0).2.2 = 0 := by
      rcases Classical.em ((one q 0).2.2 = 0) with e | e
      · exact e
      · rw [go_end one k _ _ a2 e] at hh
        exact absurd hh e
    obtain ⟨b1, b2⟩ := h.bk q hq e1
    rw [e1] at hh ⊢
    obtain ⟨⟨c1, c2⟩, c3⟩ := go_bk h k _ a1 hh
    refine ⟨⟨?_, fun e he => ?_⟩, by rw [List.length_cons, c3]⟩
    · rw [List.flatMap_cons, bsE_app, List.append_assoc, ← c1, ← b1]
    · rw [List.flatMap_cons] at he
      rcases List.mem_append.1 he with he | he
      · exact b2 e he
      · exact c2 e he

theorem go_fw {one : Nat → Int → α × Nat × Int} {ev : α → List Ev} {Fit : α → Prop} (h : Rds m S one ev Fit) : ∀ (l : List α) (q : Nat) (r : List UInt8), q ≤ S.size → (∀ x ∈ l, Fit x) → (∀ e ∈ l.flatMap ev, okEv m e) → dr S q = bsE m (l.flatMap ev) ++ r → goL one l.length q 0 = (l, q + (bsE m (l.flatMap ev)).length, 0)
  | [], q, r, hq, _, _, _ => by simp [goL, bsE]
  | a :: l, q, r, hq, hF, hk, hd => by
    rw [List.flatMap_cons, bsE_app, List.append_assoc] at hd
    rw [List.flatMap_cons] at hk
    have h1 := h.fw a q _ hq (hF a (List.mem_cons_self ..)) (fun e he => hk e (List.mem_append.2 (Or.inl he))) hd
    have hq1 : q + (bsE m (ev a)).length ≤ S.size := by
      have := (h.okp q 0 hq (by decide)).1
      rw [h1] at this
      exact this
    have h2 := go_fw h l _ r hq1 (fun x hx => hF x (List.mem_cons_of_mem _ hx)) (fun e he => hk e (List.mem_append.2 (Or.inr he))) (dr_app hd)
    rw [List.length_cons, go_step, h1]
    dsimp only
    rw [h2, List.flatMap_cons, bsE_app, List.length_append, Nat.add_assoc]

theorem rL {one : Nat → Int → α × Nat × Int} {ev : α → List Ev} {Fit : α → Prop} (h : Rds m S one ev Fit) : Rds m S (fun q e => listL one S q e) (fun l => .n l.length :: l.flatMap ev) (fun l => l.length ≤ 6000 ∧ ∀ x ∈ l, Fit x) := by
  refine ⟨ok_list h.okp, fun q e h6 h0 => ?_, fun q hq hh => ?_, fun l q r hq hF hk hd => ?_⟩
  · have hV : nV S q e = 0 := by unfold nV; rw [if_pos h0]
    have hE : eL S q e = e := by unfold eL; rw [hV, if_neg (by omega)]; unfold nE; rw [if_pos h0]
    show (listL one S q e).2.2 = e
    unfold listL
    rw [hV, hE]
    rfl
  · have hh : (listL one S q 0).2.2 = 0 := hh
    show dr S q = bsE m (.n (listL one S q 0).1.length :: (listL one S q 0).1.flatMap ev) ++ dr S (listL one S q 0).2.1 ∧ ∀ e ∈ (Ev.n (listL one S q 0).1.length :: (listL one S q 0).1.flatMap ev), okEv m e
    unfold listL at hh ⊢
    have hEL : eL S q 0 = 0 := by
      rcases Classical.em (eL S q 0 = 0) with e | e
      · exact e
      · rw [go_end one _ _ _ (eL_ok S q 0 (by decide)) e] at hh
        exact absurd hh e
    have hn : ¬ 6000 < nV S q 0 := fun hn => by
      unfold eL fE at hEL
      rw [if_pos hn] at hEL
      split at hEL
      · simp at hEL
      · contradiction
    have hE : nE S q 0 = 0 := by unfold eL at hEL; rwa [if_neg hn] at hEL
    obtain ⟨b1, b2⟩ := n_bk hq hE
    rw [hEL] at hh ⊢
    obtain ⟨⟨c1, c2⟩, c3⟩ := go_bk h (nV S q 0) (nP S q 0) (nP_in S q 0 hq) hh
    rw [c3]
    have hb : bsE m (.n ((nV S q 0 : Nat) : Int) :: (goL one (nV S q 0) (nP S q 0) 0).1.flatMap ev) = nb (nV S q 0) ++ bsE m ((goL one (nV S q 0) (nP S q 0) 0).1.flatMap ev) := rfl
    refine ⟨?_, fun e he => ?_⟩
    · rw [hb, List.append_assoc, ← c1, ← b1]
    · rcases List.mem_cons.1 he with rfl | he
      · exact ⟨Int.natCast_nonneg _, by show ((nV S q 0 : Nat) : Int) ≤ _; omega⟩
      · exact c2 e he
  · have hb : bsE m (.n ((l.length : Nat) : Int) :: l.flatMap ev) = nb l.length ++ bsE m (l.flatMap ev) := rfl
    have hd : dr S q = bsE m (.n ((l.length : Nat) : Int) :: l.flatMap ev) ++ r := hd
    rw [hb, List.append_assoc] at hd
    obtain ⟨h1, h2, h3⟩ := n_fw hd (by have := hF.1; omega)
    have hE : eL S q 0 = 0 := by unfold eL; rw [h1, if_neg (by have := hF.1; omega), h3]
    have hq1 : nP S q 0 ≤ S.size := nP_in S q 0 hq
    rw [h2] at hq1
    have h4 := go_fw h l _ r hq1 hF.2 (fun e he => hk e (List.mem_cons_of_mem _ he)) (dr_app hd)
    show listL one S q 0 = (l, q + (bsE m (.n ((l.length : Nat) : Int) :: l.flatMap ev)).length, 0)
    unfold listL
    rw [h1, h2, hE, h4, hb, List.length_append, Nat.add_assoc]

theorem flat_single (l : List ByteArray) : l.flatMap (fun t => [Ev.t t]) = l.map Ev.t := by
  induction l with
  | nil => rfl
  | cons a l ih => rw [List.flatMap_cons, List.map_cons, ih]; rfl

variable (hm : m.Pairwise (fun a b => a < b))
include hm

theorem rTs : Rds m S (fun q e => listL (oneT m S) S q e) evL (fun l => l.length ≤ 6000) :=
  (rL (rT hm)).map (fun l => l) (fun l => l) (fun q e => rfl) (fun b => rfl) (fun a => by unfold evL; rw [flat_single]) (fun b hb => ⟨hb, fun _ _ => trivial⟩)

theorem rM : Rds m S (oneM m S) evM (fun _ => True) :=
  (Rds.seq (rN m S) (rT hm)).map (fun p : Int × ByteArray => (⟨p.1, p.2⟩ : Mk)) (fun b : Mk => (b.at_, b.tag)) (fun q e => rfl) (fun b => rfl) (fun a => rfl) (fun b _ => ⟨trivial, trivial⟩)

theorem rF : Rds m S (oneF m S) evF (fun _ => True) :=
  (Rds.seq (rT hm) (Rds.seq (rT hm) (rT hm))).map (fun p : ByteArray × ByteArray × ByteArray => (⟨p.1, p.2.1, p.2.2⟩ : SF)) (fun b : SF => (b.name, b.kinds, b.ret)) (fun q e => rfl) (fun b => rfl) (fun a => rfl) (fun b _ => ⟨trivial, trivial, trivial⟩)

theorem rO : Rds m S (oneO m S) evO (fun o => o.marks.length ≤ 6000) :=
  (Rds.seq (rT hm) (Rds.seq (rT hm) (rL (rM hm)))).map (fun p : ByteArray × ByteArray × List Mk => (⟨p.1, p.2.1, p.2.2⟩ : SO)) (fun b : SO => (b.name, b.kinds, b.marks)) (fun q e => rfl) (fun b => rfl) (fun a => rfl) (fun b hb => ⟨trivial, trivial, hb, fun _ _ => trivial⟩)

theorem rC : Rds m S (oneC m S) evC (fun c => c.args.length ≤ 6000) :=
  (Rds.seq (rN m S) (Rds.seq (rT hm) (Rds.seq (rT hm) (Rds.seq (rN m S) (Rds.seq (rT hm) (rTs hm)))))).map (fun p : Int × ByteArray × ByteArray × Int × ByteArray × List ByteArray => (⟨p.1, p.2.1, p.2.2.1, p.2.2.2.1, p.2.2.2.2.1, p.2.2.2.2.2⟩ : SC)) (fun b : SC => (b.op, b.a, b.b, b.k, b.tag, b.args)) (fun q e => rfl) (fun b => rfl) (fun a => rfl) (fun b hb => ⟨trivial, trivial, trivial, trivial, trivial, hb⟩)

/-- what is read back: lists that are not too long -/
def FitU (u : SU) : Prop := u.gives.length ≤ 6000 ∧ u.wants.length ≤ 6000 ∧ u.keeps.length ≤ 6000 ∧ (u.sys.objs.length ≤ 6000 ∧ ∀ o ∈ u.sys.objs, o.marks.length ≤ 6000) ∧ u.sys.fns.length ≤ 6000 ∧ u.sys.cons.length ≤ 6000 ∧ ∀ c ∈ u.sys.cons, c.args.length ≤ 6000

def oneU (m : List (List UInt8)) (S : ByteArray) (q : Nat) (e : Int) : SU × Nat × Int :=
  let A := seqR (oneT m S) (seqR (fun q e => listL (oneT m S) S q e) (seqR (fun q e => listL (oneT m S) S q e) (seqR (fun q e => listL (oneT m S) S q e) (seqR (fun q e => listL (oneO m S) S q e) (seqR (fun q e => listL (oneF m S) S q e) (fun q e => listL (oneC m S) S q e)))))) q e
  (⟨A.1.1, A.1.2.1, A.1.2.2.1, A.1.2.2.2.1, ⟨A.1.2.2.2.2.1, A.1.2.2.2.2.2.1, A.1.2.2.2.2.2.2⟩⟩, A.2)

theorem rU : Rds m S (oneU m S) evSU FitU :=
  (Rds.seq (rT hm) (Rds.seq (rTs hm) (Rds.seq (rTs hm) (Rds.seq (rTs hm) (Rds.seq (rL (rO hm)) (Rds.seq (rL (rF hm)) (rL (rC hm)))))))).map (fun p : ByteArray × List ByteArray × List ByteArray × List ByteArray × List SO × List SF × List SC => (⟨p.1, p.2.1, p.2.2.1, p.2.2.2.1, ⟨p.2.2.2.2.1, p.2.2.2.2.2.1, p.2.2.2.2.2.2⟩⟩ : SU)) (fun b : SU => (b.name, b.gives, b.wants, b.keeps, b.sys.objs, b.sys.fns, b.sys.cons)) (fun q e => rfl) (fun b => rfl) (fun a => rfl) (fun b hb => ⟨trivial, hb.1, hb.2.1, hb.2.2.1, hb.2.2.2.1, ⟨hb.2.2.2.2.1, fun _ _ => trivial⟩, hb.2.2.2.2.2.1, hb.2.2.2.2.2.2⟩)
end

theorem seqR_at {α β : Type} {f : Nat → Int → α × Nat × Int} {g : Nat → Int → β × Nat × Int} {q : Nat} {e : Int} {x : α × Nat × Int} {y : β × Nat × Int} (h1 : f q e = x) (h2 : g x.2.1 x.2.2 = y) : seqR f g q e = ((x.1, y.1), y.2) := by
  subst h1 h2
  rfl
theorem oneU_A (m : List (List UInt8)) (S : ByteArray) : oneU m S 0 0 = (rdA m S, (rdC m S).2) := by
  have s6 : seqR (fun q e => listL (oneF m S) S q e) (fun q e => listL (oneC m S) S q e) (rdO m S).2.1 (rdO m S).2.2 = (((rdF m S).1, (rdC m S).1), (rdC m S).2) := seqR_at (x := rdF m S) (y := rdC m S) rfl rfl
  have s5 := seqR_at (f := fun q e => listL (oneO m S) S q e) (q := (rdK m S).2.1) (e := (rdK m S).2.2) (x := rdO m S) rfl s6
  have s4 := seqR_at (f := fun q e => listL (oneT m S) S q e) (q := (rdW m S).2.1) (e := (rdW m S).2.2) (x := rdK m S) rfl s5
  have s3 := seqR_at (f := fun q e => listL (oneT m S) S q e) (q := (rdG m S).2.1) (e := (rdG m S).2.2) (x := rdW m S) rfl s4
  have s2 := seqR_at (f := fun q e => listL (oneT m S) S q e) (q := nP S 0 0) (e := tN m S 0 0) (x := rdG m S) rfl s3
  have s1 := seqR_at (f := oneT m S) (q := 0) (e := 0) (x := (tT m S 0 0, nP S 0 0, tN m S 0 0)) rfl s2
  unfold oneU
  rw [s1]
  rfl

/-- what is written is read as it was -/
theorem back1 {m : List (List UInt8)} (hm : m.Pairwise (fun a b => a < b)) (u : SU) (hf : FitU u) (h : (foldE m (evSU u)).2 = 0) : rdE m (bs (doneS (foldE m (evSU u)))) = 0 ∧ rdS m (bs (doneS (foldE m (evSU u)))) = u := by
  obtain ⟨_, hk⟩ := fold_bad (evSU u) ([], 0) h
  have hd : foldE m (evSU u) = (bsE m (evSU u), 0) := by
    unfold foldE
    rw [fold_ok (evSU u) [] hk, List.nil_append]
  have hS : doneS (foldE m (evSU u)) = bsE m (evSU u) := by rw [hd]; rfl
  rw [hS]
  generalize hs : bs (bsE m (evSU u)) = S
  have hl : S.data.toList = bsE m (evSU u) := by rw [← hs]; rfl
  have hz : S.size = (bsE m (evSU u)).length := by rw [← hl]; exact Array.length_toList.symm
  have h1 := (rU hm (S := S)).fw u 0 [] (Nat.zero_le _) hf hk (by unfold dr; rw [List.drop_zero, hl, List.append_nil])
  rw [oneU_A, Nat.zero_add] at h1
  have a1 : rdA m S = u := congrArg Prod.fst h1
  have a2 : (rdC m S).2 = ((bsE m (evSU u)).length, (0 : Int)) := congrArg Prod.snd h1
  have hE : rdE m S = 0 := by
    unfold rdE
    rw [a2]
    unfold dE
    rw [if_neg (by rw [hz]; simp)]
  refine ⟨hE, ?_⟩
  unfold rdS
  rw [if_pos hE, a1]

theorem bsE_len (m : List (List UInt8)) : ∀ l : List Ev, l.length ≤ (bsE m l).length
  | [] => by simp [bsE]
  | e :: l => by
    have := bsE_len m l
    have h1 : 0 < (evB m e).length := nb_pos _
    show l.length + 1 ≤ (evB m e ++ bsE m l).length
    rw [List.length_append]
    omega

/-- what is read is written so -/
theorem back2 {m : List (List UInt8)} (hm : m.Pairwise (fun a b => a < b)) (S : ByteArray) (h : rdE m S = 0) : foldE m (evSU (rdS m S)) = (S.data.toList, 0) ∧ (evSU (rdS m S)).length ≤ S.size := by
  have hq := (in_C m S).1
  have h6 := (in_C m S).2
  have hE := h
  unfold rdE dE at h
  have hr : (rdC m S).2.2 = 0 ∧ (rdC m S).2.1 = S.size := by
    split at h
    · simp at h
    · rename_i hx
      exact ⟨h, by
        rcases Nat.lt_or_ge (rdC m S).2.1 S.size with hlt | hge
        · exact absurd ⟨h, hlt⟩ hx
        · omega⟩
  have e1 : rdS m S = rdA m S := by unfold rdS; rw [if_pos hE]
  obtain ⟨b1, b2⟩ := (rU hm (S := S)).bk 0 (Nat.zero_le _) (by rw [oneU_A]; exact hr.1)
  rw [oneU_A] at b1 b2
  dsimp only at b1 b2
  rw [hr.2] at b1
  have hl : S.data.toList = bsE m (evSU (rdA m S)) := by
    have z : dr S S.size = [] := by unfold dr; rw [List.drop_eq_nil_iff]; exact Nat.le_of_eq Array.length_toList
    rw [z, List.append_nil] at b1
    have : dr S 0 = S.data.toList := by unfold dr; rw [List.drop_zero]
    rw [← this]; exact b1
  rw [e1]
  refine ⟨?_, ?_⟩
  · unfold foldE
    rw [fold_ok _ [] b2, List.nil_append, ← hl]
  · have := bsE_len m (evSU (rdA m S))
    rw [← hl] at this
    have hz : S.data.toList.length = S.size := Array.length_toList
    omega

theorem fit_small {u : SU} (h : SmlU u) : FitU u :=
  ⟨Nat.le_trans h.g.1 (by omega), Nat.le_trans h.w.1 (by omega), Nat.le_trans h.k.1 (by omega), ⟨Nat.le_trans h.s.o (by omega), fun o ho => Nat.le_trans (h.s.m o ho) (by omega)⟩, Nat.le_trans h.s.f (by omega), Nat.le_trans h.s.c (by omega), h.s.a⟩
theorem sul_small {u : SU} (h : SmlU u) : SuL u :=
  ⟨Nat.le_trans h.g.1 (by omega), Nat.le_trans h.w.1 (by omega), Nat.le_trans h.k.1 (by omega), fun c hc => Nat.le_trans (h.s.a c hc) (by omega)⟩
theorem sul_0 : SuL su0 := ⟨by simp [su0], by simp [su0], by simp [su0], fun c hc => by simp [su0] at hc⟩
end Go.Proofs.Ytdmmkjijgoiecaa.re

/-
  record: RecordBack: the law.
-/
namespace Go.Proofs.Ytdmmkjijgoiecaa.re
open Go.RowKit Go.Sort Go.Shelf Go.Proofs.Ytdmmkjijgoiecaa.mem Go.Proofs.Ytdmmkjijgoiecaa.sy Go.Proofs.Ytdmmkjijgoiecaa.vr Go.Proofs.Ytdmmkjijgoiecaa.po Go.Proofs.Ytdmmkjijgoiecaa.inn

def LeE (B : Nat) : Ev → Prop
  | .n _ => True
  | .t s => s.size ≤ B
theorem le_txE {B : Nat} : ∀ (l : List Ev), (∀ e ∈ l, LeE B e) → ∀ t ∈ txE l, t.size ≤ B
  | [], _, t, ht => by simp [txE] at ht
  | .n k :: l, h, t, ht => le_txE l (fun e he => h e (List.mem_cons_of_mem _ he)) t ht
  | .t s :: l, h, t, ht => by
    have ht : t ∈ s :: txE l := ht
    rcases List.mem_cons.1 ht with rfl | ht
    · exact h (.t t) (List.mem_cons_self ..)
    · exact le_txE l (fun e he => h e (List.mem_cons_of_mem _ he)) t ht
theorem le_evL {B : Nat} {l : List ByteArray} (h : ∀ s ∈ l, s.size ≤ B) : ∀ e ∈ evL l, LeE B e := fun e he => by
  unfold evL at he
  rcases List.mem_cons.1 he with rfl | he
  · trivial
  · obtain ⟨s, hs, rfl⟩ := List.mem_map.1 he
    exact h s hs
theorem le_flat {B : Nat} {α : Type} {f : α → List Ev} {l : List α} (h : ∀ x ∈ l, ∀ e ∈ f x, LeE B e) : ∀ e ∈ (Ev.n l.length :: l.flatMap f), LeE B e := fun e he => by
  rcases List.mem_cons.1 he with rfl | he
  · trivial
  · obtain ⟨x, hx, he⟩ := List.mem_flatMap.1 he
    exact h x hx e he
theorem le_su {u : MU} (h : SumB RB u) : ∀ e ∈ evSU u.su, LeE RB e := fun e he => by
  unfold evSU at he
  rcases List.mem_cons.1 he with rfl | he
  · exact h.n
  rcases List.mem_append.1 he with he | he
  · exact le_evL h.g.2.1 e he
  rcases List.mem_append.1 he with he | he
  · exact le_evL h.w.2.1 e he
  rcases List.mem_append.1 he with he | he
  · exact le_evL h.k.2.1 e he
  rcases List.mem_append.1 he with he | he
  · refine le_flat (f := evO) (l := u.su.sys.objs) (fun x hx e he => ?_) e he
    obtain ⟨y, hy, rfl⟩ := List.mem_map.1 hx
    have hb := h.os y hy
    unfold evO at he
    rcases List.mem_cons.1 he with rfl | he
    · exact hb.n
    rcases List.mem_cons.1 he with rfl | he
    · exact hb.k
    refine le_flat (f := evM) (l := y.o.marks) (fun x hx e he => ?_) e he
    simp only [evM, List.mem_cons, List.not_mem_nil, or_false] at he
    rcases he with rfl | rfl
    · trivial
    · exact hb.m x hx
  rcases List.mem_append.1 he with he | he
  · refine le_flat (f := evF) (l := u.su.sys.fns) (fun x hx e he => ?_) e he
    have hb := h.fs x hx
    simp only [evF, List.mem_cons, List.not_mem_nil, or_false] at he
    rcases he with rfl | rfl | rfl
    · exact hb.n
    · exact hb.k
    · exact hb.r
  · refine le_flat (f := evC) (l := u.su.sys.cons) (fun x hx e he => ?_) e he
    obtain ⟨y, hy, rfl⟩ := List.mem_map.1 hx
    have hb := h.cs y hy
    simp only [evC, List.mem_cons] at he
    rcases he with rfl | rfl | rfl | rfl | rfl | he
    · trivial
    · exact hb.a
    · exact hb.b
    · trivial
    · exact hb.t
    · exact le_evL hb.g e he

theorem seg_ge {w2 w3 : World} {A1 : Option Addr} (h : blk A1 = blk (some ⟨w2.heap.size, 0, none⟩) ∨ blk A1 = [w3.heap.size]) (hz : w2.heap.size < w3.heap.size) : ∀ g ∈ blk A1, w2.heap.size ≤ g := fun g hg => by
  rcases h with e | e
  · rw [e] at hg; simp [blk] at hg; omega
  · rw [e] at hg; simp at hg; omega

def mu0 : MU := ⟨⟨#[]⟩, none, 0, [], none, 0, [], none, 0, [], ⟨none, 0, [], none, 0, [], none, 0, []⟩⟩
theorem sum_mu0 (w : World) : SumM w mu0 := ⟨fun h => by simp [mu0] at h, fun h => by simp [mu0] at h, fun h => by simp [mu0] at h, ⟨fun h => by simp [mu0] at h, fun h => by simp [mu0] at h, fun h => by simp [mu0] at h, by simp [mu0], by simp [mu0], by simp [mu0], by simp [mu0], by simp [mu0], by simp [mu0]⟩⟩

set_option maxRecDepth 100000 in
set_option maxHeartbeats 8000000 in
theorem law_back (u : MU) (A : Option Addr) (cap : Nat) (l : List (List UInt8)) (b : ByteArray) (w : World) (hs : SumM w u) (hb : SumB RB u) (hl : Rd w A (l.map encStr)) (hm : l.length ≤ maxLen) (hlx : ∀ x ∈ l, x.length ≤ maxLen) (hbs : b.size ≤ maxLen) :
    Calls Try.prog 5 #[u.val, .slice A l.length cap, .string b] w (WkP w) := by
  obtain ⟨W, hWe⟩ : ∃ W, Hid (W = w.alloc (.cells u.row 29)) := ⟨_, Lib.hid rfl⟩
  have B : Box W w.heap.size 29 u.row := by rw [hWe.out]; exact Box.new _ _ _
  have b0 : Below w.heap.size w W := by rw [hWe.out]; exact (Below.refl _ _).alloc (Nat.le_refl _) _
  have HB : Hid (∀ w2, Below W.heap.size W w2 → SumM w2 u ∧ Rd w2 A (l.map encStr)) := Lib.hid (fun w2 b => ⟨(hs.below b0).below b, (hl.below b0).below b⟩)
  have HC : Hid (∀ w2, Below W.heap.size W w2 → w2.cell? ⟨w.heap.size, 0, none⟩ = some (.string u.name) ∧ w2.cell? ⟨w.heap.size, 1, none⟩ = some (.slice u.gA u.gives.length u.gc) ∧ w2.cell? ⟨w.heap.size, 2, none⟩ = some (.slice u.wA u.wants.length u.wc) ∧ w2.cell? ⟨w.heap.size, 3, none⟩ = some (.slice u.kA u.keeps.length u.kc) ∧ w2.cell? ⟨w.heap.size, 4, none⟩ = some (.slice u.s.oA u.s.os.length u.s.oc) ∧ w2.cell? ⟨w.heap.size, 5, none⟩ = some (.slice u.s.fA u.s.fs.length u.s.fc) ∧ w2.cell? ⟨w.heap.size, 6, none⟩ = some (.slice u.s.cA u.s.cs.length u.s.cc)) := Lib.hid (fun w2 b => by
    have x := B.kept (Fr.of_below b []) (by simp)
    exact ⟨x.cell 0, x.cell 1, x.cell 2, x.cell 3, x.cell 4, x.cell 5, x.cell 6⟩)
  have HE : Hid (∀ w2, Below W.heap.size W w2 → Below w.heap.size w w2) := Lib.hid (fun w2 b => b0.trans (b.mono b0.size))
  have R0 := Lib.hid (Below.refl W.heap.size W)
  have hT : ∀ x ∈ rsS ((txE (evSU u.su)).map tx), x.length ≤ maxLen := fun x hx => by
    obtain ⟨t, ht, rfl⟩ := List.mem_map.1 ((mem_rsS _ x).1 hx)
    have := le_txE _ (le_su hb) t ht
    rw [tx_len]
    exact Nat.le_trans this (by unfold RB maxLen; decide)
  have hTl : Hid (SmlU u.su → (rsS ((txE (evSU u.su)).map tx)).length ≤ 999000) := Lib.hid (fun h => by
    have a1 := rs_len ((txE (evSU u.su)).map tx)
    have a2 := txE_len (evSU u.su)
    have a3 := ev_small h
    rw [List.length_map] at a1
    omega)
  obtain ⟨m1, hm1⟩ : ∃ m, Hid (m = rsS ((txE (evSU u.su)).map tx) ++ l) := ⟨_, Lib.hid rfl⟩
  have hml1 : ∀ x ∈ rsS m1, x.length ≤ maxLen := fun x hx => by
    have := (mem_rsS m1 x).1 hx
    rw [hm1.out] at this
    rcases List.mem_append.1 this with h | h
    · exact hT x h
    · exact hlx x h
  have hml2 : ∀ x ∈ rsS l, x.length ≤ maxLen := fun x hx => hlx x ((mem_rsS l x).1 hx)
  have KW := Lib.hid (works_any W)
  have KG := Lib.hid (fun (w2 : World) (x : Below W.heap.size W w2) => great_su u w2 (HB.out w2 x).1 hb)
  have KT := Lib.hid (fun (w2 : World) (x : Below W.heap.size W w2) => greatT_any w2 A cap l (HB.out w2 x).2 hm)
  have KY := Lib.hid (fun (w2 : World) (x : Below W.heap.size W w2) (h : SmlU u.su) => texts_any w2 u (HB.out w2 x).1 (Nat.le_trans (ev_small h) (by decide)))
  have KP := Lib.hid (fun (w2 : World) (pA : Option Addr) (pc : Nat) (hp : Rd w2 pA (m1.map encStr)) (h : m1.length ≤ 1000000) => pof_any w2 pA pc m1 hp h)
  have KP2 := Lib.hid (fun (w2 : World) (x : Below W.heap.size W w2) (h : l.length ≤ 60) => pof_any w2 A cap l (HB.out w2 x).2 (by omega))
  have KBy := Lib.hid (fun (w2 : World) (x : Below W.heap.size W w2) (h : SmlU u.su) (pb : Nat) (pA : Option Addr) (pc : Nat) (hp : Pl w2 pb pA pc (rsS m1)) (hm : (rsS m1).length ≤ 1000000) => bytes_any w2 pb pA pc (rsS m1) hp (rs_sorted m1) hm u (HB.out w2 x).1 (Nat.le_trans (ev_small h) (by unfold MX; decide)))
  have hbk : Hid (SmlU u.su → (foldE (rsS m1) (evSU u.su)).2 = 0 → rdE (rsS m1) (bs (doneS (foldE (rsS m1) (evSU u.su)))) = 0 ∧ rdS (rsS m1) (bs (doneS (foldE (rsS m1) (evSU u.su)))) = u.su) := Lib.hid (fun h h0 => back1 (rs_sorted m1) u.su (fit_small h) h0)
  have hfl : Hid (SmlU u.su → (bs (doneS (foldE (rsS m1) (evSU u.su)))).size ≤ maxLen) := Lib.hid (fun h => by
    have a1 := foldE_len (rsS m1) (evSU u.su)
    have a2 := ev_small h
    have a3 : (bs (doneS (foldE (rsS m1) (evSU u.su)))).size = (doneS (foldE (rsS m1) (evSU u.su))).length := rfl
    rw [a3]
    unfold doneS
    unfold maxLen
    split
    · simp
    · omega)
  have KR1 := Lib.hid (fun (w2 : World) (h : SmlU u.su) (pb : Nat) (pA : Option Addr) (pc : Nat) (hp : Pl w2 pb pA pc (rsS m1)) (hm : (rsS m1).length ≤ 1000000) => read_any hp hm hml1 (hfl.out h))
  have KR2 := Lib.hid (fun (w2 : World) (pb : Nat) (pA : Option Addr) (pc : Nat) (hp : Pl w2 pb pA pc (rsS l)) (hm : (rsS l).length ≤ 1000000) => read_any hp hm hml2 hbs)
  have hb2 : Hid (rdE (rsS l) b = 0 → foldE (rsS l) (evSU (rdS (rsS l) b)) = (b.data.toList, 0) ∧ (evSU (rdS (rsS l) b)).length ≤ b.size) := Lib.hid (fun h => back2 (rs_sorted l) b h)
  have hb0 : Hid (rdE (rsS l) b ≠ 0 → rdS (rsS l) b = su0) := Lib.hid (fun h => by unfold rdS; rw [if_neg h])
  have hSL := Lib.hid (rdS_len (rsS l) b)
  have KB2 := Lib.hid (fun (w2 : World) (pb : Nat) (pA : Option Addr) (pc : Nat) (hp : Pl w2 pb pA pc (rsS l)) (hm : (rsS l).length ≤ 1000000) (v : MU) (hv : SumM w2 v) (hl : (evSU v.su).length ≤ MX) => bytes_any w2 pb pA pc (rsS l) hp (rs_sorted l) hm v hv hl)
  have hrl := Lib.hid (rs_len l)
  have hrm := Lib.hid (rs_len m1)
  have hbb : Hid (bs (doneS ((b.data.toList, 0) : List UInt8 × Int)) = b) := Lib.hid rfl
  obtain ⟨x0, x1, x2, x3, x4, x5, x6⟩ := HC.out W R0.out
  unfold maxLen at hm hbs
  unfold MU.val MU.row at *
  clear hs hb hl B b0 hT hml1 hml2 hlx hfl
  generalize rsS ((txE (evSU u.su)).map tx) = T at *
  obtain ⟨t1, ht1⟩ : ∃ t, Hid (t = bs (doneS (foldE (rsS m1) (evSU u.su)))) := ⟨_, Lib.hid rfl⟩
  obtain ⟨e1, he1⟩ : ∃ e, Hid (e = (foldE (rsS m1) (evSU u.su)).2) := ⟨_, Lib.hid rfl⟩
  unfold RP at KBy KB2
  rw [← ht1.out] at KBy KR1 hbk
  rw [← he1.out] at KBy hbk
  clear ht1 he1
  generalize rdE (rsS l) b = E at *
  generalize rdS (rsS l) b = V at *
  unfold GSP at KG
  unfold TP at KY
  unfold GTPost at KT
  unfold OfPost at KP KP2
  unfold RDP at KR1 KR2
  unfold WkP at KW ⊢
  go_enter Try.func5, Try.ntmps5
  go_upto_region 1 with fail
  rw [← hWe.out]
  clear hWe
  generalize hbx : w.heap.size = bx at *
  replace hbx := Lib.hid hbx
  clear x0 x1 x2 x3 x4 x5 x6
  go_wp2_with fail
  refine KW.out.mono ?_
  rintro e w1 ⟨rfl, b1⟩
  have B1 := Lib.hid (R0.out.trans b1)
  clear b1 KW
  obtain ⟨x0, x1, x2, x3, x4, x5, x6⟩ := HC.out w1 B1.out
  have K := Lib.hid (KG.out w1 B1.out)
  clear KG
  go_wp2_with fail
  refine K.out.mono ?_
  rintro e w2 ⟨r1, rfl, b2, hr1⟩
  have B2 := Lib.hid (B1.out.trans (b2.mono B1.out.size))
  replace hr1 := Lib.hid hr1
  clear b2 K x0 x1 x2 x3 x4 x5 x6 B1
  rcases r1 with _ | _
  rotate_left
  · have E := Lib.hid (HE.out w2 B2.out)
    clear KT KY KP KP2 KBy KR1 KR2 KB2 hbk hb2 hb0 hr1
    go_wp2_with fail
    go_ret
    exact ⟨rfl, by rw [hbx.out]; exact E.out⟩
  have HSm := Lib.hid (hr1.out rfl)
  clear hr1
  have K := Lib.hid (KT.out w2 B2.out)
  clear KT
  go_wp2_with fail
  refine K.out.mono ?_
  rintro e w3 ⟨r2, rfl, rfl, hr2⟩
  replace hr2 := Lib.hid hr2
  clear K
  rcases r2 with _ | _
  rotate_left
  · have E := Lib.hid (HE.out w2 B2.out)
    clear KY KP KP2 KBy KR1 KR2 KB2 hbk hb2 hb0 hr2
    go_wp2_with fail
    go_ret
    exact ⟨rfl, by rw [hbx.out]; exact E.out⟩
  obtain ⟨hl60, _⟩ := hr2.out rfl
  clear hr2
  by_cases h3 : 3000 < b.size
  · have d1 : decide ((3000 : Int) < (b.size : Int)) = true := decide_eq_true (by omega)
    have E := Lib.hid (HE.out w2 B2.out)
    clear KY KP KP2 KBy KR1 KR2 KB2 hbk hb2 hb0
    go_wp2_with fail
    go_ret
    exact ⟨rfl, by rw [hbx.out]; exact E.out⟩
  have d1 : decide ((3000 : Int) < (b.size : Int)) = false := decide_eq_false (by omega)
  obtain ⟨x0, x1, x2, x3, x4, x5, x6⟩ := HC.out w2 B2.out
  have Bf := Lib.hid (B2.out.alloc B2.out.size (.cells #[] 9))
  have hT9 := hTl.out HSm.out
  have hm1l := Lib.hid (show m1.length ≤ 1000000 by rw [hm1.out, List.length_append]; omega)
  have hr1l : (rsS m1).length ≤ 1000000 := Nat.le_trans hrm.out hm1l.out
  have hr2l : (rsS l).length ≤ 1000000 := by have := hrl.out; omega
  have S0 := Lib.hid (seg_fresh w2 9)
  have y0 := (HC.out _ Bf.out).1
  have y1 := (HC.out _ Bf.out).2.1
  have y2 := (HC.out _ Bf.out).2.2.1
  have y3 := (HC.out _ Bf.out).2.2.2.1
  have y4 := (HC.out _ Bf.out).2.2.2.2.1
  have y5 := (HC.out _ Bf.out).2.2.2.2.2.1
  have y6 := (HC.out _ Bf.out).2.2.2.2.2.2
  have K := Lib.hid (KY.out _ Bf.out HSm.out)
  clear KY hTl hrm
  go_wp2_with fail
  refine K.out.mono ?_
  rintro e w3 ⟨tA, tc, rfl, rt, b3⟩
  have B3 := Lib.hid (Bf.out.trans (b3.mono Bf.out.size))
  have S3 := Lib.hid (S0.out.kept (Fr.of_below b3 []) (by simp))
  have f3 : Hid (Below w2.heap.size w2 w3) := Lib.hid (((Below.refl w2.heap.size w2).alloc (Nat.le_refl _) _).trans (b3.mono (by show _ ≤ (w2.heap.push _).size; rw [Array.size_push]; omega)))
  have hz3 : Hid (w2.heap.size < w3.heap.size) := Lib.hid (Nat.lt_of_lt_of_le (by show _ < (w2.heap.push _).size; rw [Array.size_push]; omega) b3.size)
  have RT := Lib.hid rt
  clear b3 rt K S0 Bf x0 x1 x2 x3 x4 x5 x6 y0 y1 y2 y3 y4 y5 y6
  obtain ⟨i0, hi0, hz0, hz1, hz2⟩ := info_sp
  replace hi0 := Lib.hid hi0
  replace hz0 := Lib.hid hz0
  replace hz1 := Lib.hid hz1
  replace hz2 := Lib.hid hz2
  go_wp2_with (first
    | (at_builtin; refine wpList_app (n := 0) (m := T.length) rfl (.tmp 30) (.tmp 32) _ rfl S3.out RT.out rfl (List.length_map _).symm Try.underlying22 hi0.out hz0.out hz1.out hz2.out rfl rfl rfl (enc_one' T) (by omega) (by omega) ?_; intro A1 c1 w4 hs4 f4 hb4; have B4l := Lib.hid (f3.out.trans (f4.below (by simp [blk]) f3.out.size)); have B4 := Lib.hid (B2.out.trans (B4l.out.mono B2.out.size)); have S4 : Hid (Seg w4 9 A1 c1 (T.map encStr)) := Lib.hid hs4; have hb4g : Hid (∀ g ∈ blk A1, w2.heap.size ≤ g) := Lib.hid (fun g hg => by exact seg_ge hb4 hz3.out g hg); clear hs4 f4 hb4)
    | (at_builtin; refine wpList_app (n := T.length) (m := l.length) rfl (.tmp 33) (.tmp 34) _ rfl S4.out (HB.out w4 B4.out).2 (List.length_map _).symm (List.length_map _).symm Try.underlying22 hi0.out hz0.out hz1.out hz2.out rfl rfl rfl (enc_one' l) (by omega) (by omega) ?_; intro A2 c2 w5 hs5 f5 hb5; have B5l := Lib.hid (B4l.out.trans (f5.below hb4g.out B4l.out.size)); have B5 := Lib.hid (B2.out.trans (B5l.out.mono B2.out.size)); have S5 : Hid (Rd w5 A2 (m1.map encStr)) := Lib.hid (by rw [hm1.out, List.map_append]; exact hs5.rd); have KO := Lib.hid (KP.out w5 A2 c2 S5.out hm1l.out); rw [show m1.length = T.length + l.length by rw [hm1.out, List.length_append]] at KO; clear hs5 f5 hb5))
  refine KO.out.mono ?_
  rintro e w6 ⟨pb, pA, pc, rfl, pl, b6⟩
  have B6 := Lib.hid (B5.out.trans (b6.mono B5.out.size))
  have K := Lib.hid (KBy.out w6 B6.out HSm.out pb pA pc pl hr1l)
  have PL := Lib.hid pl
  clear b6 pl KO KP KBy B5 B5l B4 B4l S4 S5 hb4g S3 f3 hz3 RT hm1l hm1 B3
  obtain ⟨x0, x1, x2, x3, x4, x5, x6⟩ := HC.out w6 B6.out
  go_wp2_with fail
  refine K.out.mono ?_
  rintro e w7 ⟨rfl, b7⟩
  have B7 := Lib.hid (B6.out.trans (b7.mono B6.out.size))
  have P7 := Lib.hid (PL.out.below b7)
  clear b7 K x0 x1 x2 x3 x4 x5 x6 PL B6
  by_cases h0 : e1 = 0
  · have q0 : (e1 == 0) = true := by simpa using h0
    obtain ⟨k1, k2⟩ := hbk.out HSm.out h0
    have K := KR1.out w7 HSm.out pb pA pc P7.out hr1l
    rw [k1, k2] at K
    replace K := Lib.hid K
    clear k1 k2 hbk KR1 h0
    go_wp2_with fail
    refine K.out.mono ?_
    rintro e w8 ⟨v, rfl, hv, sv, b8⟩
    have B8 := Lib.hid (B7.out.trans (b8.mono B7.out.size))
    have SV := Lib.hid sv
    have hV := Lib.hid hv
    clear b8 sv hv K
    unfold MU.val MU.row
    go_upto_region 9 with fail
    have Bx := Lib.hid (Box.new w8 29 #[.string v.name, .slice v.gA v.gives.length v.gc, .slice v.wA v.wants.length v.wc, .slice v.kA v.keeps.length v.kc, .slice v.s.oA v.s.os.length v.s.oc, .slice v.s.fA v.s.fs.length v.s.fc, .slice v.s.cA v.s.cs.length v.s.cc])
    have fa := (Below.refl w8.heap.size w8).alloc (Nat.le_refl _) (.cells #[.string v.name, .slice v.gA v.gives.length v.gc, .slice v.wA v.wants.length v.wc, .slice v.kA v.keeps.length v.kc, .slice v.s.oA v.s.os.length v.s.oc, .slice v.s.fA v.s.fs.length v.s.fc, .slice v.s.cA v.s.cs.length v.s.cc] 29)
    have B9 := Lib.hid (B8.out.trans (fa.mono B8.out.size))
    have SV9 := Lib.hid (SV.out.below fa)
    clear fa SV
    generalize w8.alloc (.cells #[.string v.name, .slice v.gA v.gives.length v.gc, .slice v.wA v.wants.length v.wc, .slice v.kA v.keeps.length v.kc, .slice v.s.oA v.s.os.length v.s.oc, .slice v.s.fA v.s.fs.length v.s.fc, .slice v.s.cA v.s.cs.length v.s.cc] 29) = w9 at *
    generalize w8.heap.size = xb at *
    obtain ⟨x0, x1, x2, x3, x4, x5, x6⟩ := HC.out w9 B9.out
    have K := Lib.hid (same24_any v u w9 SV9.out (HB.out w9 B9.out).1 hV.out (by rw [hV.out]; exact sul_small HSm.out))
    unfold MU.val MU.row BPost at K
    have y0 := Bx.out.cell 0
    have y1 := Bx.out.cell 1
    have y2 := Bx.out.cell 2
    have y3 := Bx.out.cell 3
    have y4 := Bx.out.cell 4
    have y5 := Bx.out.cell 5
    have y6 := Bx.out.cell 6
    simp only [List.getElem?_toArray, List.getElem?_cons_zero, List.getElem?_cons_succ] at y0 y1 y2 y3 y4 y5 y6
    clear SV9 hV Bx B8
    go_wp2_with fail
    refine K.out.mono ?_
    rintro e wc ⟨rfl, bc⟩
    have BC := Lib.hid (B9.out.trans (bc.mono B9.out.size))
    clear bc K x0 x1 x2 x3 x4 x5 x6 y0 y1 y2 y3 y4 y5 y6 B9 P7
    have K := Lib.hid (KP2.out wc BC.out hl60)
    clear KP2
    go_wp2_with fail
    refine K.out.mono ?_
    rintro e wd ⟨qb, qA, qc, rfl, pl, bd⟩
    have BD := Lib.hid (BC.out.trans (bd.mono BC.out.size))
    have K2 := Lib.hid (KR2.out wd qb qA qc pl hr2l)
    have PD := Lib.hid pl
    clear bd pl K KR2
    go_wp2_with fail
    refine K2.out.mono ?_
    rintro e we ⟨z, rfl, hz, sz, be⟩
    have BE := Lib.hid (BD.out.trans (be.mono BD.out.size))
    have PE := Lib.hid (PD.out.below be)
    have SZ := Lib.hid sz
    have hZ := Lib.hid hz
    clear be sz hz K2 PD BD
    unfold MU.val MU.row
    go_upto_region 13 with fail
    have Bz := Lib.hid (Box.new we 29 #[.string z.name, .slice z.gA z.gives.length z.gc, .slice z.wA z.wants.length z.wc, .slice z.kA z.keeps.length z.kc, .slice z.s.oA z.s.os.length z.s.oc, .slice z.s.fA z.s.fs.length z.s.fc, .slice z.s.cA z.s.cs.length z.s.cc])
    have fa := (Below.refl we.heap.size we).alloc (Nat.le_refl _) (.cells #[.string z.name, .slice z.gA z.gives.length z.gc, .slice z.wA z.wants.length z.wc, .slice z.kA z.keeps.length z.kc, .slice z.s.oA z.s.os.length z.s.oc, .slice z.s.fA z.s.fs.length z.s.fc, .slice z.s.cA z.s.cs.length z.s.cc] 29)
    have BF := Lib.hid (BE.out.trans (fa.mono BE.out.size))
    have SZF := Lib.hid (SZ.out.below fa)
    have PF := Lib.hid (PE.out.below fa)
    clear fa SZ PE BE
    generalize we.alloc (.cells #[.string z.name, .slice z.gA z.gives.length z.gc, .slice z.wA z.wants.length z.wc, .slice z.kA z.keeps.length z.kc, .slice z.s.oA z.s.os.length z.s.oc, .slice z.s.fA z.s.fs.length z.s.fc, .slice z.s.cA z.s.cs.length z.s.cc] 29) = wf at *
    generalize we.heap.size = zb at *
    have y0 := Bz.out.cell 0
    have y1 := Bz.out.cell 1
    have y2 := Bz.out.cell 2
    have y3 := Bz.out.cell 3
    have y4 := Bz.out.cell 4
    have y5 := Bz.out.cell 5
    have y6 := Bz.out.cell 6
    simp only [List.getElem?_toArray, List.getElem?_cons_zero, List.getElem?_cons_succ] at y0 y1 y2 y3 y4 y5 y6
    by_cases hE0 : E = 0
    · have g0 : (E != 0) = false := by simpa using hE0
      obtain ⟨k1, k2⟩ := hb2.out hE0
      have K := KB2.out wf qb qA qc PF.out hr2l z SZF.out (by rw [hZ.out]; exact Nat.le_trans k2 (by unfold MX; omega))
      rw [hZ.out, k1, hbb.out] at K
      replace K := Lib.hid K
      clear k1 k2 hb2 hb0 KB2 hE0 SZF PF Bz hZ
      have g1 : (b.data == b.data) = true := by simp
      go_wp2_with fail
      refine K.out.mono ?_
      rintro e wg ⟨rfl, bg⟩
      have EE := Lib.hid (HE.out wg (BF.out.trans (bg.mono BF.out.size)))
      clear bg K
      go_wp2_with fail
      go_ret
      exact ⟨rfl, by rw [hbx.out]; exact EE.out⟩
    · have g0 : (E != 0) = true := by simpa using hE0
      have k1 := hb0.out hE0
      have K := Lib.hid (same24_any z mu0 wf SZF.out (sum_mu0 wf) (by rw [hZ.out, k1]; rfl) (by rw [hZ.out, k1]; exact sul_0))
      unfold MU.val MU.row BPost at K
      clear k1 hb2 hb0 KB2 hE0 SZF PF Bz hZ
      go_wp2_with fail
      refine K.out.mono ?_
      rintro e wg ⟨rfl, bg⟩
      have EE := Lib.hid (HE.out wg (BF.out.trans (bg.mono BF.out.size)))
      clear bg K
      go_wp2_with fail
      go_ret
      exact ⟨rfl, by rw [hbx.out]; exact EE.out⟩
  · have q0 : (e1 == 0) = false := by simpa using h0
    clear hbk KR1 h0 P7
    have BC := B7
    have K := Lib.hid (KP2.out w7 BC.out hl60)
    clear KP2
    go_wp2_with fail
    refine K.out.mono ?_
    rintro e wd ⟨qb, qA, qc, rfl, pl, bd⟩
    have BD := Lib.hid (BC.out.trans (bd.mono BC.out.size))
    have K2 := Lib.hid (KR2.out wd qb qA qc pl hr2l)
    have PD := Lib.hid pl
    clear bd pl K KR2
    go_wp2_with fail
    refine K2.out.mono ?_
    rintro e we ⟨z, rfl, hz, sz, be⟩
    have BE := Lib.hid (BD.out.trans (be.mono BD.out.size))
    have PE := Lib.hid (PD.out.below be)
    have SZ := Lib.hid sz
    have hZ := Lib.hid hz
    clear be sz hz K2 PD BD
    unfold MU.val MU.row
    go_upto_region 13 with fail
    have Bz := Lib.hid (Box.new we 29 #[.string z.name, .slice z.gA z.gives.length z.gc, .slice z.wA z.wants.length z.wc, .slice z.kA z.keeps.length z.kc, .slice z.s.oA z.s.os.length z.s.oc, .slice z.s.fA z.s.fs.length z.s.fc, .slice z.s.cA z.s.cs.length z.s.cc])
    have fa := (Below.refl we.heap.size we).alloc (Nat.le_refl _) (.cells #[.string z.name, .slice z.gA z.gives.length z.gc, .slice z.wA z.wants.length z.wc, .slice z.kA z.keeps.length z.kc, .slice z.s.oA z.s.os.length z.s.oc, .slice z.s.fA z.s.fs.length z.s.fc, .slice z.s.cA z.s.cs.length z.s.cc] 29)
    have BF := Lib.hid (BE.out.trans (fa.mono BE.out.size))
    have SZF := Lib.hid (SZ.out.below fa)
    have PF := Lib.hid (PE.out.below fa)
    clear fa SZ PE BE
    generalize we.alloc (.cells #[.string z.name, .slice z.gA z.gives.length z.gc, .slice z.wA z.wants.length z.wc, .slice z.kA z.keeps.length z.kc, .slice z.s.oA z.s.os.length z.s.oc, .slice z.s.fA z.s.fs.length z.s.fc, .slice z.s.cA z.s.cs.length z.s.cc] 29) = wf at *
    generalize we.heap.size = zb at *
    have y0 := Bz.out.cell 0
    have y1 := Bz.out.cell 1
    have y2 := Bz.out.cell 2
    have y3 := Bz.out.cell 3
    have y4 := Bz.out.cell 4
    have y5 := Bz.out.cell 5
    have y6 := Bz.out.cell 6
    simp only [List.getElem?_toArray, List.getElem?_cons_zero, List.getElem?_cons_succ] at y0 y1 y2 y3 y4 y5 y6
    by_cases hE0 : E = 0
    · have g0 : (E != 0) = false := by simpa using hE0
      obtain ⟨k1, k2⟩ := hb2.out hE0
      have K := KB2.out wf qb qA qc PF.out hr2l z SZF.out (by rw [hZ.out]; exact Nat.le_trans k2 (by unfold MX; omega))
      rw [hZ.out, k1, hbb.out] at K
      replace K := Lib.hid K
      clear k1 k2 hb2 hb0 KB2 hE0 SZF PF Bz hZ
      have g1 : (b.data == b.data) = true := by simp
      go_wp2_with fail
      refine K.out.mono ?_
      rintro e wg ⟨rfl, bg⟩
      have EE := Lib.hid (HE.out wg (BF.out.trans (bg.mono BF.out.size)))
      clear bg K
      go_wp2_with fail
      go_ret
      exact ⟨rfl, by rw [hbx.out]; exact EE.out⟩
    · have g0 : (E != 0) = true := by simpa using hE0
      have k1 := hb0.out hE0
      have K := Lib.hid (same24_any z mu0 wf SZF.out (sum_mu0 wf) (by rw [hZ.out, k1]; rfl) (by rw [hZ.out, k1]; exact sul_0))
      unfold MU.val MU.row BPost at K
      clear k1 hb2 hb0 KB2 hE0 SZF PF Bz hZ
      go_wp2_with fail
      refine K.out.mono ?_
      rintro e wg ⟨rfl, bg⟩
      have EE := Lib.hid (HE.out wg (BF.out.trans (bg.mono BF.out.size)))
      clear bg K
      go_wp2_with fail
      go_ret
      exact ⟨rfl, by rw [hbx.out]; exact EE.out⟩
end Go.Proofs.Ytdmmkjijgoiecaa.re

/-
  record: RecordBack: of arguments as they come in.
-/
namespace Go.Proofs.Ytdmmkjijgoiecaa.re
open Go.RowKit Go.ChangeShapes Go.WideShapes Go.Proofs.Ytdmmkjijgoiecaa.mem Go.Proofs.Ytdmmkjijgoiecaa.sy

set_option maxRecDepth 100000 in
theorem pf_back (H : Type) (enc : TypeId × Value → H) (W : World) {base base2 : Nat} (v : Value) (d : DataW H) (p : List MemPlace) (k : DataW.Trod enc Try.prog W 0 (fun _ => true) true 29 v d p) (o : Value.okWide Try.prog W .any base 29 v) (hw : ∀ n ∈ d.weights Try.prog 29, n ≤ reachBytes)
    (v2 : Value) (d2 : DataW H) (p2 : List MemPlace) (k2 : DataW.Trod enc Try.prog W 0 (fun _ => true) true 22 v2 d2 p2) (o2 : Value.okWide Try.prog W .any base2 22 v2) (hw2 : ∀ n ∈ d2.weights Try.prog 22, n ≤ reachBytes)
    (a : ByteArray) (wa : a.size ≤ maxLen) (ra : a.size ≤ reachBytes) :
    Calls Try.prog 5 #[v, v2, .string a] W (WkP W) := by
  obtain ⟨u, rfl, hs, hb⟩ := sum_of (B := RB) v d p k o (fun n hn => by rw [← reach_RB]; exact hw n hn)
  obtain ⟨A, cap, l, rfl, hr, hl, hsz⟩ := txts_of k2 o2 hw2
  have h := law_back u A cap (l.map tx) a W hs hb hr (by rw [List.length_map]; exact hl) (fun x hx => by
    obtain ⟨y, hy, rfl⟩ := List.mem_map.1 hx
    rw [tx_len]
    exact hsz y hy) wa
  rw [List.length_map] at h
  exact h
end Go.Proofs.Ytdmmkjijgoiecaa.re
