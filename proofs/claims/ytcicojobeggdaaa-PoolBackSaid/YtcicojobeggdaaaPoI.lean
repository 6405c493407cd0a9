/-
  pool: plain facts on reading: what is written is read, and in one way alone.
-/
import Derived.Test.YtcicojobeggdaaaPo
import Derived.Test.YtcicojobeggdaaaVrG
namespace Go.Proofs.Ytcicojobeggdaaa.po
open Go.Proofs.Ytcicojobeggdaaa.vr

/-- texts' bytes, behind a text -/
def tl : List UInt8 → List (List UInt8) → List UInt8
  | _, [] => []
  | a, x :: r => one a x ++ tl x r

theorem tl_snoc : ∀ (l : List (List UInt8)) (a x : List UInt8), tl a (l ++ [x]) = tl a l ++ one (l.getLastD a) x
  | [], a, x => by simp [tl]
  | y :: l, a, x => by
    rw [List.cons_append, tl, tl, tl_snoc l y x, List.append_assoc]
    congr 2
    cases l with
    | nil => rfl
    | cons z l => rfl

theorem lastD_snoc (l : List (List UInt8)) (a x : List UInt8) : (l ++ [x]).getLastD a = x := by simp [List.getLastD_eq_getLast?]

theorem pv_last (m : List (List UInt8)) : ∀ k, k ≤ m.length → pv m k = (m.take k).getLastD []
  | 0, _ => by simp [pv]
  | k + 1, h => by
    rw [pv_succ, at1_get m k (by omega), List.take_succ_eq_append_getElem (by omega), lastD_snoc]

theorem pP_tl (m : List (List UInt8)) : ∀ k, k ≤ m.length → pP m k = nb m.length ++ tl [] (m.take k)
  | 0, _ => by simp [pP, tl]
  | k + 1, h => by
    rw [pP, pP_tl m k (by omega), pv_last m k (by omega), at1_get m k (by omega), List.take_succ_eq_append_getElem (by omega), tl_snoc, List.append_assoc]

theorem pP_all (m : List (List UInt8)) : pP m m.length = nb m.length ++ tl [] m := by rw [pP_tl m m.length (Nat.le_refl _), List.take_length]

/-- what taking one more text makes: where it stands, the reader's error, what is wrong, the texts -/
def tkF (S : ByteArray) (p : Nat) (m : List (List UInt8)) : Nat × Int × Int × List (List UInt8) :=
  if nE S p 0 ≠ 0 then (nP S p 0, nE S p 0, nE S p 0, m)
  else if (tx S (nP S p 0) 0).2.2 ≠ 0 then ((tx S (nP S p 0) 0).2.1, (tx S (nP S p 0) 0).2.2, (tx S (nP S p 0) 0).2.2, m)
  else if (m.getLastD []).length < nV S p 0 then ((tx S (nP S p 0) 0).2.1, 0, 2, m)
  else if 1000 < ((m.getLastD []).take (nV S p 0) ++ (tx S (nP S p 0) 0).1.data.toList).length then ((tx S (nP S p 0) 0).2.1, 0, 9, m)
  else if m ≠ [] ∧ ¬ m.getLastD [] < (m.getLastD []).take (nV S p 0) ++ (tx S (nP S p 0) 0).1.data.toList then ((tx S (nP S p 0) 0).2.1, 0, 13, m)
  else if nV S p 0 < shr (m.getLastD []) ((m.getLastD []).take (nV S p 0) ++ (tx S (nP S p 0) 0).1.data.toList) then ((tx S (nP S p 0) 0).2.1, 0, 3, m)
  else ((tx S (nP S p 0) 0).2.1, 0, 0, m ++ [(m.getLastD []).take (nV S p 0) ++ (tx S (nP S p 0) 0).1.data.toList])

theorem shr_ge : ∀ (v : Nat) (a x : List UInt8), v ≤ a.length → v ≤ x.length → a.take v = x.take v → v ≤ shr a x
  | 0, _, _, _, _, _ => Nat.zero_le _
  | v + 1, [], _, h, _, _ => by simp at h
  | v + 1, _ :: _, [], _, h, _ => by simp at h
  | v + 1, b :: a, c :: x, h1, h2, h3 => by
    rw [List.take_succ_cons, List.take_succ_cons] at h3
    injection h3 with e1 e2
    have := shr_ge v a x (by simpa using h1) (by simpa using h2) e2
    unfold shr
    rw [if_pos e1]
    omega

theorem n_of {S : ByteArray} {p v sz : Nat} (h : cnt (S.data.toList.drop p) = (v, sz, 0)) : nV S p 0 = v ∧ nP S p 0 = p + sz ∧ nE S p 0 = 0 := by
  have e : ct S p = (v, sz, 0) := h
  unfold nV nP nE
  rw [e]
  simp

theorem tx_of {S : ByteArray} {p v sz : Nat} (h : cnt (S.data.toList.drop p) = (v, sz, 0)) (hl : v ≤ S.size - (p + sz)) : tx S p 0 = (S.extract (p + sz) (p + sz + v), p + sz + v, 0) := by
  have e : ct S p = (v, sz, 0) := h
  unfold tx
  rw [e]
  rw [if_neg (by simp), if_neg (by simp), if_neg (by show ¬ S.size - (p + sz) < v; omega)]

theorem extract_toList (s : ByteArray) (a b : Nat) : (s.extract a b).data.toList = (s.data.toList.drop a).take (b - a) := by
  rw [ByteArray.data_extract, Array.toList_extract, List.extract_eq_take_drop]

theorem size_toList (s : ByteArray) : s.data.toList.length = s.size := by rw [Array.length_toList]; rfl

theorem tk_back (S : ByteArray) (p : Nat) (m : List (List UInt8)) (x r : List UInt8) (hS : S.size ≤ 200000000) (h : S.data.toList.drop p = one (m.getLastD []) x ++ r) (hx : x.length ≤ 1000) (ho : m ≠ [] → m.getLastD [] < x) :
    tkF S p m = (p + (one (m.getLastD []) x).length, 0, 0, m ++ [x]) := by
  generalize ha : m.getLastD [] = a at *
  have hs1 := shr_le1 a x
  have hs2 := shr_le2 a x
  have h1 : cnt (S.data.toList.drop p) = (shr a x, (nb (shr a x)).length, 0) := by
    rw [h, one, List.append_assoc]
    exact cnt_nb _ _ (by omega)
  have hd : S.data.toList.drop (p + (nb (shr a x)).length) = nb (x.length - shr a x) ++ (x.drop (shr a x) ++ r) := by
    rw [← List.drop_drop, h, one, List.append_assoc, List.drop_left', List.append_assoc]
    rfl
  have h2 : cnt (S.data.toList.drop (p + (nb (shr a x)).length)) = (x.length - shr a x, (nb (x.length - shr a x)).length, 0) := by
    rw [hd]
    exact cnt_nb _ _ (by omega)
  have hd2 : S.data.toList.drop (p + (nb (shr a x)).length + (nb (x.length - shr a x)).length) = x.drop (shr a x) ++ r := by
    rw [← List.drop_drop, hd, List.drop_left']
    rfl
  obtain ⟨v1, v2, v3⟩ := n_of h1
  have hlen : x.length - shr a x ≤ S.size - (p + (nb (shr a x)).length + (nb (x.length - shr a x)).length) := by
    have := congrArg List.length hd2
    rw [List.length_drop, size_toList, List.length_append, List.length_drop] at this
    omega
  have h3 := tx_of h2 hlen
  have ht : (S.extract (p + (nb (shr a x)).length + (nb (x.length - shr a x)).length) (p + (nb (shr a x)).length + (nb (x.length - shr a x)).length + (x.length - shr a x))).data.toList = x.drop (shr a x) := by
    rw [extract_toList, hd2, show p + (nb (shr a x)).length + (nb (x.length - shr a x)).length + (x.length - shr a x) - (p + (nb (shr a x)).length + (nb (x.length - shr a x)).length) = (x.drop (shr a x)).length by rw [List.length_drop]; omega]
    simp
  have hX : a.take (shr a x) ++ x.drop (shr a x) = x := by rw [shr_take, List.take_append_drop]
  unfold tkF
  rw [ha, v1, v2, v3, h3, if_neg (by simp), if_neg (by simp), ht, hX, if_neg (by omega), if_neg (by omega), if_neg (by rintro ⟨h1, h2⟩; exact h2 (ho h1)), if_neg (by omega)]
  unfold one
  simp only [List.length_append, List.length_drop, Prod.mk.injEq]
  refine ⟨by omega, trivial⟩

theorem ct_fits {S : ByteArray} {p : Nat} (hp : p ≤ S.size) (h : (ct S p).2.2 = 0) : S.data.toList.drop p = nb (ct S p).1 ++ S.data.toList.drop (p + (ct S p).2.1) ∧ (ct S p).2.1 = (nb (ct S p).1).length ∧ p + (ct S p).2.1 ≤ S.size := by
  obtain ⟨r, h1, h2⟩ := nb_of_cnt (S.data.toList.drop p) (ct S p).1 (ct S p).2.1 (by rw [← h]; rfl)
  refine ⟨?_, h2, ct_le S p hp⟩
  conv => lhs; rw [h1]
  rw [← List.drop_drop, h1, h2]
  simp

theorem tk_way (S : ByteArray) (p : Nat) (m : List (List UInt8)) (p' : Nat) (er : Int) (m' : List (List UInt8)) (hp : p ≤ S.size) (h : tkF S p m = (p', er, 0, m')) :
    er = 0 ∧ p' ≤ S.size ∧ ∃ x, m' = m ++ [x] ∧ x.length ≤ 1000 ∧ S.data.toList.drop p = one (m.getLastD []) x ++ S.data.toList.drop p' ∧ p' = p + (one (m.getLastD []) x).length := by
  generalize ha : m.getLastD [] = a at *
  unfold tkF at h
  rw [ha] at h
  split at h
  · rename_i h0
    simp only [Prod.mk.injEq] at h
    exact absurd h.2.2.1 h0
  rename_i h0
  have c0 : (ct S p).2.2 = 0 := by
    have : nE S p 0 = 0 := by simpa using h0
    unfold nE at this
    simpa using this
  obtain ⟨d1, d2, d3⟩ := ct_fits hp c0
  have v1 : nV S p 0 = (ct S p).1 := by unfold nV; simp
  have v2 : nP S p 0 = p + (ct S p).2.1 := by unfold nP; simp
  rw [v1, v2] at h
  generalize (ct S p).1 = v at *
  generalize (ct S p).2.1 = sz at *
  split at h
  · rename_i h1
    simp only [Prod.mk.injEq] at h
    exact absurd h.2.2.1 h1
  rename_i h1
  have h1 : (tx S (p + sz) 0).2.2 = 0 := by simpa using h1
  have c1 : (ct S (p + sz)).2.2 = 0 ∧ ¬ S.size - (p + sz + (ct S (p + sz)).2.1) < (ct S (p + sz)).1 := by
    unfold tx at h1
    rw [if_neg (by simp)] at h1
    split at h1
    · rename_i h2
      exact absurd (by simpa using h1) h2
    · rename_i h2
      split at h1
      · simp at h1
      · rename_i h3
        exact ⟨by simpa using h2, h3⟩
  obtain ⟨g1, g2, g3⟩ := ct_fits d3 c1.1
  have t1 : tx S (p + sz) 0 = (S.extract (p + sz + (ct S (p + sz)).2.1) (p + sz + (ct S (p + sz)).2.1 + (ct S (p + sz)).1), p + sz + (ct S (p + sz)).2.1 + (ct S (p + sz)).1, 0) := by
    unfold tx
    rw [if_neg (by simp), if_neg (by simp [c1.1]), if_neg c1.2]
  rw [t1] at h
  have c2 := c1.2
  clear t1 h1 c1 h0 c0 v1 v2
  generalize (ct S (p + sz)).1 = n at *
  generalize (ct S (p + sz)).2.1 = z at *
  have hT : (S.extract (p + sz + z) (p + sz + z + n)).data.toList = (S.data.toList.drop (p + sz + z)).take n := by rw [extract_toList]; congr 1; omega
  simp only [hT] at h
  have hTl : ((S.data.toList.drop (p + sz + z)).take n).length = n := by rw [List.length_take, List.length_drop, size_toList]; omega
  have hTd : S.data.toList.drop (p + sz + z) = (S.data.toList.drop (p + sz + z)).take n ++ S.data.toList.drop (p + sz + z + n) := by
    conv => lhs; rw [← List.take_append_drop n (S.data.toList.drop (p + sz + z))]
    rw [List.drop_drop]
  generalize (S.data.toList.drop (p + sz + z)).take n = T at *
  split at h
  · simp at h
  rename_i h2
  split at h
  · simp at h
  rename_i h3
  split at h
  · simp at h
  rename_i h4
  split at h
  · simp at h
  rename_i h5
  simp only [Prod.mk.injEq] at h
  obtain ⟨rfl, rfl, _, rfl⟩ := h
  have hvl : (a.take v).length = v := by rw [List.length_take]; omega
  have hge := shr_ge v a (a.take v ++ T) (by omega) (by rw [List.length_append, hvl]; omega) (by rw [List.take_left' hvl])
  have hv : shr a (a.take v ++ T) = v := by omega
  have ho : one a (a.take v ++ T) = nb v ++ (nb n ++ T) := by
    unfold one
    rw [hv, List.length_append, hvl, List.drop_left' hvl, show v + T.length - v = n by omega]
  refine ⟨rfl, by omega, _, rfl, by omega, ?_, ?_⟩
  · rw [ho, d1, g1, hTd]
    simp only [List.append_assoc]
  · rw [ho]
    simp only [List.length_append]
    omega

/-- some texts, one by one -/
def rdF (S : ByteArray) : Nat → Nat → List (List UInt8) → Nat × Int × Int × List (List UInt8)
  | 0, p, m => (p, 0, 0, m)
  | k + 1, p, m => if (tkF S p m).2.2.1 = 0 then rdF S k (tkF S p m).1 (tkF S p m).2.2.2 else tkF S p m

theorem rd_back (S : ByteArray) (hS : S.size ≤ 200000000) : ∀ (l m : List (List UInt8)) (p : Nat) (r : List UInt8), S.data.toList.drop p = tl (m.getLastD []) l ++ r → (∀ x ∈ l, x.length ≤ 1000) → (m ++ l).Pairwise (fun a b => a < b) →
    rdF S l.length p m = (p + (tl (m.getLastD []) l).length, 0, 0, m ++ l)
  | [], m, p, r, _, _, _ => by simp [rdF, tl]
  | x :: l, m, p, r, h, hx, ho => by
    have h1 : S.data.toList.drop p = one (m.getLastD []) x ++ (tl x l ++ r) := by rw [h, tl, List.append_assoc]
    have ht := tk_back S p m x _ hS h1 (hx x List.mem_cons_self) (fun hm => by
      have h2 := (List.pairwise_append.1 ho).2.2
      obtain ⟨z, m', rfl⟩ : ∃ z m', m = m' ++ [z] := ⟨m.getLast hm, m.dropLast, (List.dropLast_concat_getLast hm).symm⟩
      rw [lastD_snoc]
      exact h2 z (by simp) x List.mem_cons_self)
    have hd : S.data.toList.drop (p + (one (m.getLastD []) x).length) = tl x l ++ r := by
      rw [← List.drop_drop, h1, List.drop_left']
      rfl
    have ih := rd_back S hS l (m ++ [x]) (p + (one (m.getLastD []) x).length) r (by rw [lastD_snoc]; exact hd) (fun y hy => hx y (List.mem_cons_of_mem _ hy)) (by simpa using ho)
    rw [lastD_snoc] at ih
    show rdF S (l.length + 1) p m = _
    rw [rdF, ht, if_pos rfl]
    show rdF S l.length (p + (one (m.getLastD []) x).length) (m ++ [x]) = _
    rw [ih, tl, List.length_append]
    simp only [Prod.mk.injEq, List.append_assoc, List.singleton_append, and_true]
    omega

theorem rd_way (S : ByteArray) : ∀ (k p : Nat) (m : List (List UInt8)) (p' : Nat) (er : Int) (m' : List (List UInt8)), p ≤ S.size → rdF S k p m = (p', er, 0, m') →
    er = 0 ∧ p' ≤ S.size ∧ ∃ l, m' = m ++ l ∧ l.length = k ∧ (∀ x ∈ l, x.length ≤ 1000) ∧ S.data.toList.drop p = tl (m.getLastD []) l ++ S.data.toList.drop p' ∧ p' = p + (tl (m.getLastD []) l).length
  | 0, p, m, p', er, m', hp, h => by
    simp only [rdF, Prod.mk.injEq] at h
    obtain ⟨rfl, rfl, _, rfl⟩ := h
    exact ⟨rfl, hp, [], by simp, rfl, by simp, by simp [tl], by simp [tl]⟩
  | k + 1, p, m, p', er, m', hp, h => by
    rw [rdF] at h
    obtain ⟨p1, er1, e1, m1⟩ : Nat × Int × Int × List (List UInt8) := tkF S p m
    rcases ht : tkF S p m with ⟨p1, er1, e1, m1⟩
    rw [ht] at h
    simp only at h
    split at h
    · rename_i h0
      subst h0
      obtain ⟨rfl, hp1, x, rfl, hx, hd, rfl⟩ := tk_way S p m p1 er1 m1 hp ht
      obtain ⟨rfl, hp', l, rfl, hl, hxl, hd', rfl⟩ := rd_way S k _ _ p' er m' hp1 h
      rw [lastD_snoc] at hd' hp' ⊢
      refine ⟨rfl, hp', x :: l, by simp, by simp [hl], ?_, ?_, ?_⟩
      · intro y hy
        rcases List.mem_cons.1 hy with rfl | hy
        · exact hx
        · exact hxl y hy
      · rw [hd, hd', tl, List.append_assoc]
      · rw [tl, List.length_append]; omega
    · rename_i h0
      simp only [Prod.mk.injEq] at h
      exact absurd h.2.2.1 h0

/-- a whole pool -/
def rdT (S : ByteArray) (p : Nat) : Nat × Int × Int × List (List UInt8) :=
  if nE S p 0 ≠ 0 then (nP S p 0, nE S p 0, nE S p 0, [])
  else if 6000 < nV S p 0 then (nP S p 0, 0, 4, [])
  else rdF S (nV S p 0) (nP S p 0) []

theorem top_back (S : ByteArray) (hS : S.size ≤ 200000000) (m : List (List UInt8)) (r : List UInt8) (h : S.data.toList = pP m m.length ++ r) (hm : m.length ≤ 1000) (hx : ∀ x ∈ m, x.length ≤ 1000) (ho : m.Pairwise (fun a b => a < b)) :
    rdT S 0 = ((pP m m.length).length, 0, 0, m) := by
  rw [pP_all, List.append_assoc] at h
  have h1 : cnt (S.data.toList.drop 0) = (m.length, (nb m.length).length, 0) := by
    rw [List.drop_zero, h]
    exact cnt_nb _ _ (by omega)
  obtain ⟨v1, v2, v3⟩ := n_of h1
  unfold rdT
  rw [v1, v2, v3, if_neg (by simp), if_neg (by omega)]
  have hd : S.data.toList.drop (0 + (nb m.length).length) = tl (([] : List (List UInt8)).getLastD []) m ++ r := by
    rw [Nat.zero_add, h, List.drop_left']
    · rfl
    · rfl
  rw [rd_back S hS m [] _ r hd hx (by simpa using ho), pP_all, List.length_append]
  simp

theorem top_way (S : ByteArray) (p' : Nat) (er : Int) (m : List (List UInt8)) (h : rdT S 0 = (p', er, 0, m)) :
    er = 0 ∧ p' ≤ S.size ∧ (∀ x ∈ m, x.length ≤ 1000) ∧ m.length ≤ 6000 ∧ S.data.toList.take p' = pP m m.length := by
  unfold rdT at h
  split at h
  · rename_i h0
    simp only [Prod.mk.injEq] at h
    exact absurd h.2.2.1 h0
  rename_i h0
  split at h
  · simp at h
  rename_i h2
  have c0 : (ct S 0).2.2 = 0 := by
    have : nE S 0 0 = 0 := by simpa using h0
    unfold nE at this
    simpa using this
  obtain ⟨d1, d2, d3⟩ := ct_fits (Nat.zero_le _) c0
  have v1 : nV S 0 0 = (ct S 0).1 := by unfold nV; simp
  have v2 : nP S 0 0 = 0 + (ct S 0).2.1 := by unfold nP; simp
  rw [v1, v2] at h
  rw [v1] at h2
  obtain ⟨rfl, hp', l, rfl, hl, hx, hd, rfl⟩ := rd_way S _ _ _ p' er m d3 h
  simp only at hl hx hd ⊢
  have e0 : ([] : List (List UInt8)).getLastD [] = [] := rfl
  rw [e0] at hd hp' ⊢
  refine ⟨trivial, hp', hx, by omega, ?_⟩
  rw [pP_all, hl]
  rw [List.drop_zero, hd] at d1
  conv => lhs; rw [d1]
  rw [← List.append_assoc, List.take_left']
  rw [List.length_append]
  omega
end Go.Proofs.Ytcicojobeggdaaa.po
