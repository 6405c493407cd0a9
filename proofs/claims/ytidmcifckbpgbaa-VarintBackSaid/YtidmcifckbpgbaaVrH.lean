/-
  varint: in one way alone: the walk.
-/
import Derived.Test.YtidmcifckbpgbaaVrG
namespace Go.Proofs.Ytidmcifckbpgbaa.vr
open Go.RowKit Go.Proofs.Ytidmcifckbpgbaa.mem

/-- a reader made since w -/
structure One (w wr : World) (a : Nat) (s : ByteArray) (p : Nat) (er : Int) : Prop where
  x : RD wr a s p er
  on : Below w.heap.size w wr
  ba : w.heap.size ≤ a

theorem One.step {w wr w2 : World} {a : Nat} {s : ByteArray} {p q : Nat} {er d : Int} (h : One w wr a s p er) (h2 : RD w2 a s q d) (hf : Fr [a] wr w2) : One w w2 a s q d :=
  ⟨h2, h.on.trans (hf.below (by simpa using h.ba) h.on.size), h.ba⟩

theorem one_new (s : ByteArray) (w wr : World) (hb : Below w.heap.size w wr) : Calls Try.prog 24 #[.string s] wr fun e w' => e = .returned (.pointer (some ⟨wr.heap.size, 0, none⟩)) ∧ One w w' wr.heap.size s 0 0 := by
  refine (rd_new s wr).mono ?_
  rintro e w' ⟨rfl, rfl⟩
  exact ⟨rfl, ⟨Box.new _ _ _⟩, hb.alloc hb.size _, hb.size⟩

theorem one_number {w wr : World} {a : Nat} {s : ByteArray} {p : Nat} {er : Int} (h : One w wr a s p er) (hs : s.size ≤ maxLen) (hp : p ≤ s.size) :
    Calls Try.prog 25 #[.pointer (some ⟨a, 0, none⟩)] wr fun e w' => e = .returned (.int .i64 (nV s p er)) ∧ One w w' a s (nP s p er) (nE s p er) := by
  refine (rd_number wr a s p er h.x hs hp).mono ?_
  rintro e w' ⟨rfl, h2, hf⟩
  exact ⟨rfl, h.step h2 hf⟩
theorem one_text {w wr : World} {a : Nat} {s : ByteArray} {p : Nat} {er : Int} (h : One w wr a s p er) (hs : s.size ≤ maxLen) (hp : p ≤ s.size) :
    Calls Try.prog 27 #[.pointer (some ⟨a, 0, none⟩)] wr fun e w' => e = .returned (.string (tx s p er).1) ∧ One w w' a s (tx s p er).2.1 (tx s p er).2.2 := by
  refine (rd_text wr a s p er h.x hs hp).mono ?_
  rintro e w' ⟨rfl, h2, hf⟩
  exact ⟨rfl, h.step h2 hf⟩
theorem one_done {w wr : World} {a : Nat} {s : ByteArray} {p : Nat} {er : Int} (h : One w wr a s p er) :
    Calls Try.prog 31 #[.pointer (some ⟨a, 0, none⟩)] wr fun e w' => e = .returned (.tuple #[.int .i64 (p : Int), .int .i64 (dE s p er)]) ∧ One w w' a s p er := by
  refine (rd_done wr a s p er h.x).mono ?_
  rintro e w' ⟨rfl, h2, hf⟩
  exact ⟨rfl, h.step h2 hf⟩

theorem nP_le1 (s : ByteArray) (p : Nat) (er : Int) (hp : p ≤ s.size) : nP s p er ≤ s.size := by
  unfold nP
  split
  · exact hp
  · exact ct_le s p hp

def Lq (n : Int) (t : ByteArray) : List PutT := [(false, n, ⟨#[]⟩), (true, 0, t)]

theorem Lq_puts (w : World) (n : Int) (t : ByteArray) : Puts (w.alloc (.cells #[.bool false, .int .i64 n, .string ⟨#[]⟩, .bool true, .int .i64 0, .string t] 34)) (some ⟨w.heap.size, 0, none⟩) (Lq n t) := fun _ => by
  have hb := Box.new w 34 #[.bool false, .int .i64 n, .string ⟨#[]⟩, .bool true, .int .i64 0, .string t]
  refine ⟨w.heap.size, 0, rfl, by simp, fun j hj => ?_⟩
  have hj2 : j < 2 := hj
  rw [hb.cell, hb.cell, hb.cell]
  rcases j with _ | _ | j
  · exact ⟨rfl, rfl, rfl⟩
  · exact ⟨rfl, rfl, rfl⟩
  · omega

theorem extract_list (s : ByteArray) (a b : Nat) : (s.extract a b).data.toList = (s.data.toList.drop a).take (b - a) := by
  rw [ByteArray.data_extract, Array.toList_extract, List.extract_eq_take_drop]

theorem bs_list (s : ByteArray) (l : List UInt8) (h : s.data.toList = l) : bs l = s := by subst h; exact bs_of s

/-- of whom a number, a text and nothing more is taken -/
theorem one_way (s : ByteArray) (hs : s.size ≤ 20000) (h : dE s (tx s (nP s 0 0) (nE s 0 0)).2.1 (tx s (nP s 0 0) (nE s 0 0)).2.2 = 0) :
    putAll (Lq (nV s 0 0) (tx s (nP s 0 0) (nE s 0 0)).1) = (s.data.toList, 0) := by
  have e1 : nV s 0 0 = (ct s 0).1 := if_neg (by simp)
  have e2 : nP s 0 0 = 0 + (ct s 0).2.1 := if_neg (by simp)
  have e3 : nE s 0 0 = (((ct s 0).2.2 : Nat) : Int) := if_neg (by simp)
  rw [Nat.zero_add] at e2
  rw [e2, e3] at h
  rw [e1, e2, e3]
  clear e1 e2 e3
  by_cases hc : (ct s 0).2.2 = 0
  · rw [hc] at h ⊢
    have hok := ct_ok s 0 (by omega) hc
    obtain ⟨r1, hl, hz⟩ := nb_of_cnt s.data.toList (ct s 0).1 (ct s 0).2.1 (by
      have : cnt s.data.toList = ct s 0 := by unfold ct; rw [List.drop_zero]
      rw [this]
      exact Prod.ext rfl (Prod.ext rfl hc))
    generalize (ct s 0).1 = n at *
    generalize (ct s 0).2.1 = p1 at *
    by_cases hc2 : (ct s p1).2.2 = 0
    · by_cases hn : s.size - (p1 + (ct s p1).2.1) < (ct s p1).1
      · have hv : tx s p1 ((0 : Nat) : Int) = (⟨#[]⟩, p1, 1) := by unfold tx; rw [if_neg (by simp), if_neg (by simp [hc2]), if_pos hn]
        rw [hv] at h
        simp [dE] at h
      · have hv : tx s p1 ((0 : Nat) : Int) = (s.extract (p1 + (ct s p1).2.1) (p1 + (ct s p1).2.1 + (ct s p1).1), p1 + (ct s p1).2.1 + (ct s p1).1, 0) := by unfold tx; rw [if_neg (by simp), if_neg (by simp [hc2]), if_neg hn]
        rw [hv] at h ⊢
        have hok2 := ct_ok s p1 (by omega) hc2
        obtain ⟨r2, hl2, hz2⟩ := nb_of_cnt (s.data.toList.drop p1) (ct s p1).1 (ct s p1).2.1 (by
          show ct s p1 = _
          exact Prod.ext rfl (Prod.ext rfl hc2))
        generalize (ct s p1).1 = k at *
        generalize (ct s p1).2.1 = sz at *
        have hsz : s.data.toList.length = s.size := list_size s
        have hd1 : s.data.toList.drop p1 = r1 := by rw [hl, hz, List.drop_left]
        rw [hd1] at hl2
        have hlen : s.size = p1 + (sz + r2.length) := by rw [← hsz, hl, hl2, List.length_append, List.length_append, ← hz, ← hz2]
        have hnot : ¬ p1 + sz + k < s.size := by
          intro hlt
          unfold dE at h
          rw [if_pos ⟨rfl, hlt⟩] at h
          omega
        have hk : r2.length = k := by omega
        have ht : (s.extract (p1 + sz) (p1 + sz + k)).data.toList = r2 := by
          rw [extract_list, ← List.drop_drop, hd1, hl2, hz2, List.drop_left]
          exact List.take_of_length_le (by omega)
        have hts : (s.extract (p1 + sz) (p1 + sz + k)).size = k := by rw [← list_size, ht, hk]
        show putT (putN ([], 0) (n : Int)) (s.extract (p1 + sz) (p1 + sz + k)) = _
        have h1 : putN ([], 0) (n : Int) = (nb n, 0) := by
          unfold putN
          rw [if_neg (by simp), if_neg (by omega)]
          show ([] ++ nb n, (0 : Int)) = _
          rw [List.nil_append]
        rw [h1]
        unfold putT
        rw [if_neg (by simp), if_neg (by omega), ht, hts]
        show (nb n ++ (nb k ++ r2), (0 : Int)) = _
        rw [hl, hl2]
    · have hv : tx s p1 ((0 : Nat) : Int) = ((⟨#[]⟩ : ByteArray), p1, (((ct s p1).2.2 : Nat) : Int)) := by unfold tx; rw [if_neg (by simp), if_pos hc2]
      rw [hv] at h
      unfold dE at h
      simp only at h
      rw [if_neg (by omega)] at h
      omega
  · have hv : tx s (ct s 0).2.1 (((ct s 0).2.2 : Nat) : Int) = (⟨#[]⟩, (ct s 0).2.1, (((ct s 0).2.2 : Nat) : Int)) := by unfold tx; rw [if_pos (by omega)]
    rw [hv] at h
    unfold dE at h
    simp only at h
    rw [if_neg (by omega)] at h
    omega

set_option maxRecDepth 100000 in
theorem law_one (s : ByteArray) (w : World) (hs : s.size ≤ maxLen) : Calls Try.prog 8 #[.string s] w (WorksPost w) := by
  have HW := Lib.hid (works_any w)
  unfold WorksPost at HW
  by_cases hb : 20000 < s.size
  · have d0 : decide ((20000 : Int) < (s.size : Int)) = true := decide_eq_true (by omega)
    clear hs
    go_enter Try.func8, Try.ntmps8
    go_wp2_with fail
    refine HW.out.mono ?_
    rintro e w1 ⟨rfl, b1⟩
    go_wp2_with fail
    go_ret
    exact ⟨rfl, b1⟩
  · have d0 : decide ((20000 : Int) < (s.size : Int)) = false := decide_eq_false (by omega)
    have HOW := Lib.hid (one_way s (by omega))
    have K0 := Lib.hid (fun w' (h : Below w.heap.size w w') => one_new s w w' h)
    have K1 := Lib.hid (fun w' a (h : One w w' a s 0 0) => one_number h hs (Nat.zero_le _))
    have K2 := Lib.hid (fun w' a (h : One w w' a s (nP s 0 0) (nE s 0 0)) => one_text h hs (nP_le1 s 0 0 (Nat.zero_le _)))
    have K3 := Lib.hid (fun w' a (h : One w w' a s (tx s (nP s 0 0) (nE s 0 0)).2.1 (tx s (nP s 0 0) (nE s 0 0)).2.2) => one_done h)
    have KW := Lib.hid (fun (w' : World) => write_any _ (some ⟨w'.heap.size, 0, none⟩) 2 _ (Lq_puts w' (nV s 0 0 : Nat) (tx s (nP s 0 0) (nE s 0 0)).1) (by show 2 ≤ 300; omega))
    unfold WrPost at KW
    clear hs hb
    generalize nV s 0 0 = n at *
    generalize nP s 0 0 = p1 at *
    generalize nE s 0 0 = e1 at *
    generalize tx s p1 e1 = tr at *
    obtain ⟨t, p2, e2⟩ := tr
    simp only at HOW K2 K3 KW
    generalize dE s p2 e2 = z at *
    by_cases hz : z = 0
    · subst hz
      have hp := HOW.out rfl
      rw [hp] at KW
      have hd : bs (doneS (s.data.toList, (0 : Int))) = s := by
        have : doneS (s.data.toList, (0 : Int)) = s.data.toList := if_neg (by simp)
        rw [this, bs_of]
      rw [hd] at KW
      have KW2 : Hid (∀ w' : World, Below w.heap.size w w' → Calls Try.prog 22 #[.slice (some ⟨w'.heap.size, 0, none⟩) 2 2] (w'.alloc (.cells #[.bool false, .int .i64 (n : Int), .string ⟨#[]⟩, .bool true, .int .i64 0, .string t] 34)) fun e w'' => e = .returned (.tuple #[.string s, .int .i64 0]) ∧ Below w.heap.size w w'') := Lib.hid (fun w' hb => (KW.out w').mono (by
        rintro e w'' ⟨rfl, hb2⟩
        exact ⟨rfl, (hb.alloc hb.size _).trans (hb2.mono (by have := hb.size; simp; omega))⟩))
      have dq : (s.toList == s.toList) = true := by simp
      clear KW hp hd HOW
      go_enter Try.func8, Try.ntmps8
      go_wp2_with fail
      refine HW.out.mono ?_
      rintro e w1 ⟨rfl, b1⟩
      have B1 := Lib.hid b1
      clear b1 HW
      go_wp2_with fail
      refine (K0.out _ B1.out).mono ?_
      rintro e w2 ⟨rfl, h2⟩
      have H2 := Lib.hid h2
      clear h2 K0
      go_wp2_with fail
      refine (K1.out _ _ H2.out).mono ?_
      rintro e w3 ⟨rfl, h3⟩
      have H3 := Lib.hid h3
      clear h3 K1 H2
      go_wp2_with fail
      refine (K2.out _ _ H3.out).mono ?_
      rintro e w4 ⟨rfl, h4⟩
      have H4 := Lib.hid h4
      clear h4 K2 H3
      go_wp2_with fail
      refine (K3.out _ _ H4.out).mono ?_
      rintro e w5 ⟨rfl, h5⟩
      have H5 := Lib.hid h5
      clear h5 K3 H4
      go_wp2_with fail
      refine (KW2.out _ H5.out.on).mono ?_
      rintro e w6 ⟨rfl, b6⟩
      have B6 := Lib.hid b6
      clear b6 KW2 H5
      go_wp2_with fail
      go_ret
      exact ⟨rfl, B6.out⟩
    · have dz : (z != 0) = true := by simp; exact hz
      clear KW HOW hz
      go_enter Try.func8, Try.ntmps8
      go_wp2_with fail
      refine HW.out.mono ?_
      rintro e w1 ⟨rfl, b1⟩
      have B1 := Lib.hid b1
      clear b1 HW
      go_wp2_with fail
      refine (K0.out _ B1.out).mono ?_
      rintro e w2 ⟨rfl, h2⟩
      have H2 := Lib.hid h2
      clear h2 K0
      go_wp2_with fail
      refine (K1.out _ _ H2.out).mono ?_
      rintro e w3 ⟨rfl, h3⟩
      have H3 := Lib.hid h3
      clear h3 K1 H2
      go_wp2_with fail
      refine (K2.out _ _ H3.out).mono ?_
      rintro e w4 ⟨rfl, h4⟩
      have H4 := Lib.hid h4
      clear h4 K2 H3
      go_wp2_with fail
      refine (K3.out _ _ H4.out).mono ?_
      rintro e w5 ⟨rfl, h5⟩
      have H5 := Lib.hid h5
      clear h5 K3 H4
      go_wp2_with fail
      go_ret
      exact ⟨rfl, H5.out.on⟩
end Go.Proofs.Ytidmcifckbpgbaa.vr
