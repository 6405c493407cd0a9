import Derived.Test.YtdmmkjijgoiecaaV04
import Derived.Test.YtdmmkjijgoiecaaV01
import Derived.Test.YtdmmkjijgoiecaaIn
/-
  pool: plain facts: what two texts share; a pool's bytes.
-/
set_option linter.all false
namespace Go.Proofs.Ytdmmkjijgoiecaa.po
open Go.Proofs.Ytdmmkjijgoiecaa.vr Go.Proofs.Ytdmmkjijgoiecaa.inn

/-- how many bytes two texts share at their beginnings -/
def shr : List UInt8 → List UInt8 → Nat
  | a :: x, b :: y => if a = b then shr x y + 1 else 0
  | _, _ => 0

theorem shr_le1 : ∀ a b, shr a b ≤ a.length
  | [], [] => by simp [shr]
  | [], _ :: _ => by simp [shr]
  | _ :: _, [] => by simp [shr]
  | a :: x, b :: y => by
    unfold shr
    split
    · have := shr_le1 x y; simp; omega
    · simp
theorem shr_le2 : ∀ a b, shr a b ≤ b.length
  | [], [] => by simp [shr]
  | [], _ :: _ => by simp [shr]
  | _ :: _, [] => by simp [shr]
  | a :: x, b :: y => by
    unfold shr
    split
    · have := shr_le2 x y; simp; omega
    · simp

theorem shr_in : ∀ (a b : List UInt8) (k : Nat), k < shr a b → ∀ (h1 : k < a.length) (h2 : k < b.length), a[k] = b[k]
  | [], [], k, h, h1, _ => by simp at h1
  | [], _ :: _, k, h, h1, _ => by simp at h1
  | _ :: _, [], k, h, _, h2 => by simp at h2
  | a :: x, b :: y, k, h, h1, h2 => by
    unfold shr at h
    split at h
    · rename_i e
      cases k with
      | zero => simpa using e
      | succ k => simpa using shr_in x y k (by omega) (by simpa using h1) (by simpa using h2)
    · omega

theorem shr_stop : ∀ (a b : List UInt8) (h1 : shr a b < a.length) (h2 : shr a b < b.length), a[shr a b] ≠ b[shr a b]
  | [], [], h1, _ => by simp at h1
  | [], _ :: _, h1, _ => by simp at h1
  | _ :: _, [], _, h2 => by simp at h2
  | a :: x, b :: y, h1, h2 => by
    by_cases e : a = b
    · have e2 : shr (a :: x) (b :: y) = shr x y + 1 := by conv => lhs; unfold shr
                                                          rw [if_pos e]
      have := shr_stop x y (by rw [e2] at h1; simpa using h1) (by rw [e2] at h2; simpa using h2)
      simp only [e2]
      simpa using this
    · have e2 : shr (a :: x) (b :: y) = 0 := by conv => lhs; unfold shr
                                                rw [if_neg e]
      simp only [e2]
      simpa using e

theorem shr_take : ∀ (a b : List UInt8), a.take (shr a b) = b.take (shr a b)
  | [], [] => by simp [shr]
  | [], _ :: _ => by simp [shr]
  | _ :: _, [] => by simp [shr]
  | a :: x, b :: y => by
    by_cases e : a = b
    · have e2 : shr (a :: x) (b :: y) = shr x y + 1 := by conv => lhs; unfold shr
                                                          rw [if_pos e]
      rw [e2, List.take_succ_cons, List.take_succ_cons, shr_take x y, e]
    · have e2 : shr (a :: x) (b :: y) = 0 := by conv => lhs; unfold shr
                                                rw [if_neg e]
      rw [e2]; simp

/-- one text behind another one -/
def one (a x : List UInt8) : List UInt8 := nb (shr a x) ++ (nb (x.length - shr a x) ++ x.drop (shr a x))

def at1 (m : List (List UInt8)) (k : Nat) : List UInt8 := m.getD k []
def pv (m : List (List UInt8)) (k : Nat) : List UInt8 := if k = 0 then [] else at1 m (k - 1)

theorem at1_get (m : List (List UInt8)) (k : Nat) (h : k < m.length) : at1 m k = m[k] := by unfold at1; simp [h]
theorem pv_succ (m : List (List UInt8)) (k : Nat) : pv m (k + 1) = at1 m k := by unfold pv; rw [if_neg (by omega)]; rfl

/-- a pool's bytes, up to a text -/
def pP (m : List (List UInt8)) : Nat → List UInt8
  | 0 => nb m.length
  | k + 1 => pP m k ++ one (pv m k) (at1 m k)

theorem at1_le (m : List (List UInt8)) (k B : Nat) (h : ∀ x ∈ m, x.length ≤ B) : (at1 m k).length ≤ B := by
  rcases Nat.lt_or_ge k m.length with hk | hk
  · rw [at1_get m k hk]; exact h _ (List.getElem_mem hk)
  · unfold at1; rw [List.getD_eq_getElem?_getD, List.getElem?_eq_none hk]; simp

theorem one_len (a x : List UInt8) (X : Nat) (h : x.length ≤ X) (hX : X ≤ 20000) : (one a x).length ≤ X + 10 := by
  have h1 := shr_le2 a x
  have h2 := nb_len (shr a x) (by omega)
  have h3 := nb_len (x.length - shr a x) (by omega)
  unfold one
  simp only [List.length_append, List.length_drop]
  omega

theorem pP_len (m : List (List UInt8)) (X : Nat) (hm : m.length ≤ 100000) (hX : X ≤ 20000) (h : ∀ x ∈ m, x.length ≤ X) : ∀ k, (pP m k).length ≤ 5 + k * (X + 10)
  | 0 => by have := nb_len m.length (by omega); simpa [pP] using this
  | k + 1 => by
    have h1 := pP_len m X hm hX h k
    have h2 := one_len (pv m k) (at1 m k) X (at1_le m k _ h) hX
    show (pP m k ++ one (pv m k) (at1 m k)).length ≤ _
    rw [List.length_append, Nat.succ_mul]
    omega

/-- a pool whose bytes are few -/
theorem pP_few (m : List (List UInt8)) (hm : m.length ≤ 1000) (h : ∀ x ∈ m, x.length ≤ 20000) : ∀ k, k ≤ m.length → (pP m k).length ≤ 40000000 := fun k hk => by
  have h1 := pP_len m 20000 (by omega) (by omega) h k
  have h2 : k * (20000 + 10) ≤ 1000 * (20000 + 10) := Nat.mul_le_mul_right _ (by omega)
  omega

theorem pP_few2 (m : List (List UInt8)) (hm : m.length ≤ 6000) (h : ∀ x ∈ m, x.length ≤ 1000) : ∀ k, k ≤ m.length → (pP m k).length ≤ 40000000 := fun k hk => by
  have h1 := pP_len m 1000 (by omega) (by omega) h k
  have h2 : k * (1000 + 10) ≤ 6000 * (1000 + 10) := Nat.mul_le_mul_right _ (by omega)
  omega

theorem bs_toList (l : List UInt8) : (bs l).data.toList = l := by simp [bs]
theorem bs_sz (l : List UInt8) : (bs l).size = l.length := by simp [bs, ByteArray.size]
theorem list_bs (s : ByteArray) : bs s.data.toList = s := bs_of s

/-- what putting a text puts -/
theorem put_number (S : List UInt8) (k : Nat) (h : k ≤ 268435456) : putN (S, 0) (k : Int) = (S ++ nb k, 0) := by
  unfold putN
  rw [if_neg (by simp), if_neg (by omega)]
  rfl

theorem put_text (S x : List UInt8) (h : x.length ≤ 200000) : putT (S, 0) (bs x) = (S ++ (nb x.length ++ x), 0) := by
  unfold putT
  rw [if_neg (by simp), if_neg (by rw [bs_sz]; omega), bs_sz, bs_toList]

theorem put_one (S a x : List UInt8) (h : x.length ≤ 20000) : putT (putN (S, 0) ((shr a x : Nat) : Int)) (bs (x.drop (shr a x))) = (S ++ one a x, 0) := by
  have h1 := shr_le2 a x
  rw [put_number _ _ (by omega), put_text _ _ (by rw [List.length_drop]; omega), List.length_drop, List.append_assoc]
  rfl

theorem extract_bs (x : List UInt8) (k : Nat) : (bs x).extract k (bs x).size = bs (x.drop k) := by
  apply ByteArray.ext
  apply Array.ext'
  rw [ByteArray.data_extract, Array.toList_extract, List.extract_eq_take_drop, bs_toList, bs_toList, bs_sz]
  rw [List.take_of_length_le]
  rw [List.length_drop]
  omega

/-- where a text is, or would be, in a rising list -/
def upS (m : List (List UInt8)) (x : List UInt8) : Nat := (m.takeWhile fun y => decide (y < x)).length

theorem up_idx : ∀ (m : List (List UInt8)) (x : List UInt8), m.Pairwise (fun a b => a < b) → x ∈ m → upS m x = m.idxOf x
  | [], x, _, h => by simp at h
  | y :: m, x, hp, h => by
    have hp' := List.pairwise_cons.1 hp
    by_cases e : y = x
    · subst e
      have : ¬ (y < y) := List.lt_irrefl y
      unfold upS
      simp [this]
    · have hx : x ∈ m := by rcases List.mem_cons.1 h with h | h; exact absurd h.symm e; exact h
      have hlt := hp'.1 x hx
      have ih := up_idx m x hp'.2 hx
      unfold upS at ih ⊢
      simp only [List.takeWhile_cons, decide_eq_true hlt, if_true, List.length_cons]
      rw [List.idxOf_cons, show (y == x) = false by simpa using e, ih]
      rfl

theorem rs_sorted (l : List (List UInt8)) : (intoAll (fun a b : List UInt8 => a < b) l).Pairwise (fun a b => a < b) := (intoAll_spec ordS l).1

/-- at a search's end: all below i are less, none from i on is -/
theorem search_end (m : List (List UInt8)) (x : List UInt8) (i : Nat) (hi : i ≤ m.length) (h1 : ∀ j (hj : j < m.length), j < i → m[j] < x) (h2 : ∀ j (hj : j < m.length), i ≤ j → ¬ m[j] < x) : upS m x = i := by
  unfold upS
  have e : m.takeWhile (fun y => decide (y < x)) = m.take i := by
    conv => lhs; rw [← List.take_append_drop i m]
    rw [List.takeWhile_append_of_pos (by
      intro y hy
      obtain ⟨j, hj, rfl⟩ := List.mem_iff_getElem.1 hy
      rw [List.getElem_take]
      rw [List.length_take] at hj
      exact decide_eq_true (h1 j (by omega) (by omega)))]
    rcases hd : m.drop i with _ | ⟨z, r⟩
    · simp
    · have hlt : i < m.length := by
        rcases Nat.lt_or_ge i m.length with h | h
        · exact h
        · rw [List.drop_of_length_le h] at hd; cases hd
      rw [List.drop_eq_getElem_cons hlt] at hd
      injection hd with hz _
      rw [List.takeWhile_cons_of_neg (by rw [← hz]; simpa using h2 i hlt (Nat.le_refl _))]
      simp
  rw [e, List.length_take]
  omega

theorem sorted_lt (m : List (List UInt8)) (x : List UInt8) (hp : m.Pairwise (fun a b => a < b)) (i j : Nat) (hi : i < m.length) (hj : j < m.length) (hij : i ≤ j) (h : m[j] < x) : m[i] < x := by
  rcases Nat.lt_or_ge i j with h1 | h1
  · exact List.lt_trans (List.pairwise_iff_getElem.1 hp i j hi hj h1) h
  · have : i = j := by omega
    subst this; exact h

/-- what stands at a text's place -/
theorem up_at (m : List (List UInt8)) (x : List UInt8) (hp : m.Pairwise (fun a b => a < b)) : (∃ h : upS m x < m.length, m[upS m x] = x) ↔ x ∈ m := by
  constructor
  · rintro ⟨h, e⟩; rw [← e]; exact List.getElem_mem h
  · intro h
    have e := up_idx m x hp h
    have hl := List.idxOf_lt_length_iff.2 h
    refine ⟨by omega, ?_⟩
    simp only [e]
    exact List.getElem_idxOf hl
end Go.Proofs.Ytdmmkjijgoiecaa.po
