/-
  tarjan: a heap in memory: one put, the least one taken.
-/
import Derived.Test.YtpdidgacmikllaaTjY
namespace Go.Proofs.Ytpdidgacmikllaa.tj
open Go.RowKit Go.Proofs.Ytpdidgacmikllaa.mem

theorem m_push (n : Nat) (w : World) (h : Nat) : (method (n + 1) 57 (.pointer (some ⟨h, 0, none⟩)) "Push").run Try.prog w = .ok (78, .pointer (some ⟨h, 0, none⟩)) w := by kernel_rfl
theorem m_pop (n : Nat) (w : World) (h : Nat) : (method (n + 1) 57 (.pointer (some ⟨h, 0, none⟩)) "Pop").run Try.prog w = .ok (77, .pointer (some ⟨h, 0, none⟩)) w := by kernel_rfl

def PuPost (W : World) (h : Nat) (A : Option Addr) (xs : List Nat) (x : Nat) (e : Ending) (W' : World) : Prop := e = .returned (.tuple #[]) ∧ ∃ ys, Hp ys ∧ ys.Perm (x :: xs) ∧ HP W W' h A ys
def PoPost (W : World) (h : Nat) (A : Option Addr) (xs : List Nat) (e : Ending) (W' : World) : Prop := e = .returned (.iface 3 (.int .i64 ((gd xs 0 : Nat) : Int))) ∧ ∃ ys, Hp ys ∧ (gd xs 0 :: ys).Perm xs ∧ HP W W' h A ys

theorem HP.turn {W W1 W2 : World} {h : Nat} {A A' : Option Addr} {c' : Nat} {ys zs : List Nat} (hl : LH W1 h A' c' ys) (hf : Fr (h :: blk A) W W1) (hg : ∀ g ∈ blk A', g ∈ blk A ∨ W.heap.size ≤ g) (hs : HS W1 h A' c' W2 zs) : HP W W2 h A zs :=
  ⟨A', c', hs.lh, hf.trans hs.fr (fun g hg => Or.inl hg) (fun g hg' => (hg g hg').imp (fun h => List.mem_cons_of_mem _ h) id), hg⟩

set_option maxRecDepth 100000 in
theorem hpush_any (W : World) (h : Nat) (A : Option Addr) (c : Nat) (xs : List Nat) (hs : LH W h A c xs) (hp : Hp xs) (hl : xs.length ≤ 900) (x : Nat) :
    Calls Try.prog 31 #[.iface 57 (.pointer (some ⟨h, 0, none⟩)), .iface 3 (.int .i64 (x : Nat))] W (PuPost W h A xs x) := by
  have KP := Lib.hid (push_any W h A c xs hs (by omega) x)
  have HH := Lib.hid hp
  obtain ⟨n, hn⟩ : ∃ n, Hid (xs.length = n) := ⟨_, Lib.hid rfl⟩
  have hl : n ≤ 900 := by rw [← hn.out]; exact hl
  have mp := fun n => m_push n W h
  clear hs hp
  go_enter Try.func31, Try.ntmps31
  go_wp2_with fail
  refine KP.out.mono ?_
  rintro e w1 ⟨rfl, A1, c1, l1, f1, g1⟩
  have hlen : (xs ++ [x]).length = n + 1 := by simp [hn.out]
  have ml := m_len (l1.bx.cell 0)
  have L1 := Lib.hid l1
  have F1 := Lib.hid f1
  have G1 := Lib.hid g1
  have KL := len_any w1 A1 c1 (xs ++ [x]).length
  rw [hlen] at KL ml
  have KL := Lib.hid KL
  have KU := Lib.hid (up_any w1 h A1 c1 (xs ++ [x]) L1.out (by rw [hlen]; omega) n (by rw [hlen]; omega) (by rw [← hn.out]; exact HH.out.push x))
  clear mp l1 f1 g1 KP hlen
  go_wp2_with fail
  refine KL.out.mono ?_
  rintro e w2 ⟨rfl, rfl⟩
  go_wp2_with fail
  refine KU.out.mono ?_
  rintro e w3 ⟨rfl, ys, y1, y2, y3⟩
  have fin : Hid (PuPost W h A xs x (.returned (.tuple #[])) w3) := Lib.hid ⟨rfl, ys, y1, y2.trans (List.perm_append_comm (l₁ := xs) (l₂ := [x])), HP.turn L1.out F1.out G1.out y3⟩
  clear y1 y2 y3 ml KL KU
  go_wp2_with fail
  go_end0
  exact fin.out

set_option maxRecDepth 100000 in
theorem hpop_any (W : World) (h : Nat) (A : Option Addr) (c : Nat) (xs : List Nat) (hs : LH W h A c xs) (hp : Hp xs) (h0 : 0 < xs.length) (hl : xs.length ≤ 900) :
    Calls Try.prog 33 #[.iface 57 (.pointer (some ⟨h, 0, none⟩))] W (PoPost W h A xs) := by
  obtain ⟨n, hn⟩ : ∃ n, Hid (xs.length = n + 1) := ⟨xs.length - 1, Lib.hid (by omega)⟩
  have hl : n ≤ 900 := by have := hn.out; omega
  have HH := Lib.hid hp
  have H := Lib.hid hs
  have ml := m_len (hs.bx.cell 0)
  have KL := len_any W A c xs.length
  have ms := m_swap (hs.bx.cell 0)
  have KS := swap_any W h A c xs hs 0 n (by rw [hn.out]; omega) (by rw [hn.out]; omega)
  rw [hn.out] at ml KL ms KS
  have KL := Lib.hid KL
  have KS := Lib.hid KS
  clear hs hp h0
  go_enter Try.func33, Try.ntmps33
  go_wp2_with fail
  refine KL.out.mono ?_
  rintro e W2 ⟨rfl, he⟩
  obtain rfl : W = W2 := he.symm
  go_wp2_with fail
  refine KS.out.mono ?_
  rintro e w2 ⟨rfl, l2, f2⟩
  have L2 := Lib.hid l2
  have F2 := Lib.hid f2
  have hpp := HH.out.pop (by rw [hn.out]; omega)
  rw [show xs.length - 1 = n by rw [hn.out]; rfl] at hpp
  have KD := Lib.hid (down_any w2 h A c (sw xs 0 n) l2 (by rw [sw_len, hn.out]; omega) n (by rw [sw_len, hn.out]; omega) hpp)
  clear l2 f2 hpp KL KS ml ms
  go_wp2_with fail
  refine KD.out.mono ?_
  rintro e w3 ⟨⟨b, rfl⟩, ys, y1, y2, y3, y4⟩
  have hyl : ys.length = n + 1 := by rw [y2.length_eq, sw_len]; exact hn.out
  have hyn : gd ys n = gd xs 0 := by rw [y3 n (Nat.le_refl _), gd_sw (by rw [hn.out]; omega), if_pos rfl]
  have KO := pop_any w3 h A c ys y4.lh (by omega) (by omega)
  rw [show ys.length - 1 = n by omega, hyn] at KO
  have KO := Lib.hid KO
  have hdl : ys.dropLast = ys.take n := by rw [List.dropLast_eq_take, hyl]; rfl
  have hlast : ys = ys.take n ++ [gd xs 0] := by
    have e : ys.take (n + 1) = ys.take n ++ [ys[n]'(by omega)] := List.take_succ_eq_append_getElem (by omega)
    rw [List.take_of_length_le (by omega)] at e
    have e2 : ys[n]'(by omega) = gd xs 0 := by rw [← hyn]; simp [gd, show n < ys.length by omega]
    rw [e2] at e
    exact e
  have HQ : Hid (Hp ys.dropLast ∧ (gd xs 0 :: ys.dropLast).Perm xs) := Lib.hid (by
    rw [hdl]
    refine ⟨y1.take (by omega), ?_⟩
    have h1 : (ys.take n ++ [gd xs 0]).Perm xs := by rw [← hlast]; exact y2.trans (sw_perm (by rw [hn.out]; omega) (by rw [hn.out]; omega))
    exact (by simpa using List.perm_append_comm (l₁ := [gd xs 0]) (l₂ := ys.take n) : (gd xs 0 :: ys.take n).Perm (ys.take n ++ [gd xs 0])).trans h1)
  have F3 := Lib.hid (show Fr (blk A) W w3 from F2.out.trans y4.fr (fun g hg => Or.inl hg) (fun g hg => Or.inl hg))
  have mp := fun n => m_pop n w3 h
  clear y1 y2 y3 y4 hyl hyn hdl hlast KD
  go_wp2_with fail
  refine KO.out.mono ?_
  rintro e w4 ⟨rfl, A4, c4, l4, f4, g4⟩
  have fin : Hid (PoPost W h A xs (.returned (.iface 3 (.int .i64 ((gd xs 0 : Nat) : Int)))) w4) := Lib.hid ⟨rfl, _, HQ.out.1, HQ.out.2, A4, c4, l4, F3.out.trans f4 (fun g hg => Or.inl (List.mem_cons_of_mem _ hg)) (fun g hg => Or.inl hg), fun g hg => (g4 g hg).imp id (fun h => Nat.le_trans F3.out.size h)⟩
  clear l4 f4 g4 KO mp
  go_wp2_with fail
  go_ret
  exact fin.out
end Go.Proofs.Ytpdidgacmikllaa.tj
