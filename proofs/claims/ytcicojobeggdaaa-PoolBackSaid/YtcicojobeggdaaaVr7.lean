/-
  varint: the Writer's Text and Done.
-/
import Derived.Test.YtcicojobeggdaaaVr6
namespace Go.Proofs.Ytcicojobeggdaaa.vr
open Go.RowKit Go.Proofs.Ytcicojobeggdaaa.mem

theorem bytev_str (l : List UInt8) (s : ByteArray) : bytev l ++ byteCells s = bytev (l ++ s.data.toList) := by simp [bytev, byteCells]

theorem wn_any (w : World) (f : Nat) (A : Option Addr) (cap : Nat) (st : List UInt8 × Int) (n : Int) (h : WA w f A cap st) (hl : st.1.length ≤ 100000000) :
    Calls Try.prog 22 #[.pointer (some ⟨f, 0, none⟩), .int .i64 n] w (WPost w f A (putN st n)) := by
  by_cases hno : st.2 ≠ 0 ∨ n < 0 ∨ 268435456 < n
  · exact wn_no w f A cap st n h hno
  · obtain ⟨S, E⟩ := st
    simp only [not_or, Decidable.not_not] at hno
    obtain ⟨rfl, h1, h2⟩ := hno
    obtain ⟨k, rfl⟩ := Int.eq_ofNat_of_zero_le (by omega : 0 ≤ n)
    have e : putN (S, 0) (k : Int) = (S ++ nb k, 0) := by unfold putN; rw [if_neg (by simp), if_neg (by omega)]; rfl
    rw [e]
    exact wn_yes w f A cap S k h (by omega) hl

structure TFin (w w3 : World) (f : Nat) (A A3 : Option Addr) (cap3 L : Nat) (T : List UInt8) : Prop where
  c : ∃ v, w3.cell? ⟨f, 0, none⟩ = some v
  fr : w3.frozen? ⟨f, 0, none⟩ = false
  wa : WA (w3.setCell ⟨f, 0, none⟩ (.slice A3 L cap3)) f A3 cap3 (T, 0)
  f : Fr (f :: blk A) w (w3.setCell ⟨f, 0, none⟩ (.slice A3 L cap3))
  own : ∀ g ∈ blk A3, g ∈ blk A ∨ w.heap.size ≤ g

theorem text_fin {w w2 w3 : World} {f : Nat} {A A2 A3 : Option Addr} {cap2 cap3 : Nat} {T : List UInt8} {s : ByteArray} (h2 : WA w2 f A2 cap2 (T, 0)) (hf : Fr (f :: blk A) w w2) (ho : ∀ g ∈ blk A2, g ∈ blk A ∨ w.heap.size ≤ g)
    (hs3 : Seg w3 5 A3 cap3 (bytev T ++ byteCells s)) (f3 : Fr (blk A2) w2 w3) (hf3 : blk A3 = blk A2 ∨ blk A3 = [w2.heap.size]) : TFin w w3 f A A3 cap3 (T.length + s.size) (T ++ s.data.toList) := by
  have hbx := h2.box.kept f3 h2.nf
  have hA3 : f ∉ blk A3 := hs3.ne_box hbx (by decide)
  have hset : Fr [f] w3 (w3.setCell ⟨f, 0, none⟩ (.slice A3 (T.length + s.size) cap3)) := (Fr.refl [f] w3).setCell (Or.inl (by simp)) _
  refine ⟨⟨_, hbx.cell 0⟩, hbx.free 0, ⟨?_, ?_⟩, ?_, ?_⟩
  · have := hbx.put 0 (.slice A3 (T.length + s.size) cap3)
    have e : (T ++ s.data.toList, (0 : Int)).1.length = T.length + s.size := by
      show (T ++ s.data.toList).length = _
      rw [List.length_append, Array.length_toList]
      rfl
    rw [e]
    exact this
  · have := hs3.kept hset (fun g hg e => by rw [List.mem_singleton] at e; subst e; exact hA3 hg)
    rwa [bytev_str] at this
  · have h1 : Fr (f :: blk A) w w3 := hf.trans f3 (fun g hg => Or.inl hg) (fun g hg => (ho g hg).imp (fun h => List.mem_cons_of_mem _ h) id)
    exact h1.trans hset (fun g hg => Or.inl hg) (fun g hg => Or.inl (by rw [List.mem_singleton] at hg; subst hg; exact List.mem_cons_self))
  · intro g hg
    rcases hf3 with e | e
    · exact ho g (e ▸ hg)
    · rw [e, List.mem_singleton] at hg
      have := hf.size
      subst hg
      exact Or.inr this

set_option maxRecDepth 100000 in
theorem wt_any (w : World) (f : Nat) (A : Option Addr) (cap : Nat) (st : List UInt8 × Int) (s : ByteArray) (h : WA w f A cap st) (hl : st.1.length ≤ 100000000) :
    Calls Try.prog 24 #[.pointer (some ⟨f, 0, none⟩), .string s] w (WPost w f A (putT st s)) := by
  have c1 : w.cell? ⟨f, 1, none⟩ = some (.int .i64 st.2) := h.box.cell 1
  have fr := h.box.free 1
  have H := Lib.hid h
  have KN := Lib.hid (wn_any w f A cap st (s.size : Int) h hl)
  clear h
  obtain ⟨S, E⟩ := st
  unfold putT
  simp only at c1 hl ⊢
  by_cases hE : E = 0
  · subst hE
    by_cases h1 : 200000 < (s.size : Int)
    · have d1 : decide (200000 < (s.size : Int)) = true := decide_eq_true h1
      have hv : Hid ((if (0 : Int) ≠ 0 then (S, (0 : Int)) else if 200000 < (s.size : Int) then (S, 9) else (S ++ (nb s.size ++ s.data.toList), 0)) = (S, 9)) := Lib.hid (by rw [if_neg (by simp), if_pos h1])
      rw [hv.out]
      clear hv KN
      have hs := Lib.hid (H.out.setE 9)
      have hf := Lib.hid ((Fr.refl (f :: blk A) w).setCell (p := ⟨f, 1, none⟩) (Or.inl (by simp)) (.int .i64 9))
      go_enter Try.func24, Try.ntmps24
      go_wp2_with fail
      go_end0
      exact ⟨rfl, A, cap, hs.out, hf.out, fun g hg => Or.inl hg⟩
    · have d1 : decide (200000 < (s.size : Int)) = false := decide_eq_false h1
      have hv : Hid ((if (0 : Int) ≠ 0 then (S, (0 : Int)) else if 200000 < (s.size : Int) then (S, 9) else (S ++ (nb s.size ++ s.data.toList), 0)) = (S ++ nb s.size ++ s.data.toList, 0)) := Lib.hid (by rw [if_neg (by simp), if_neg h1, List.append_assoc])
      rw [hv.out]
      have hpn : putN (S, 0) (s.size : Int) = (S ++ nb s.size, 0) := by unfold putN; rw [if_neg (by simp), if_neg (by omega)]; rfl
      rw [hpn] at KN
      have hn5 := nb_len s.size (by omega)
      have hTl : (S ++ nb s.size).length ≤ 100000005 := by rw [List.length_append]; omega
      have hss : s.size ≤ 200000 := by omega
      clear hv hpn fr hn5
      generalize S ++ nb s.size = T at *
      obtain ⟨i0, hi0, hz0, hz1, hz2⟩ := info_parts info_u8
      have Hi := Lib.hid hi0
      have Hz0 := Lib.hid hz0
      have Hz1 := Lib.hid hz1
      have Hz2 := Lib.hid hz2
      clear hi0 hz0 hz1 hz2
      have KN2 : Hid (Calls Try.prog 22 #[.pointer (some ⟨f, 0, none⟩), .int .i64 (s.size : Int)] w fun e w' => e = .returned (.tuple #[]) ∧ ∃ A' cap', WA w' f A' cap' (T, 0) ∧ Fr (f :: blk A) w w' ∧ ∀ g ∈ blk A', g ∈ blk A ∨ w.heap.size ≤ g) := KN
      clear KN
      go_enter Try.func24, Try.ntmps24
      go_wp2_with fail
      refine KN2.out.mono ?_
      rintro e w2 ⟨rfl, A2, cap2, h2, hf2, ho2⟩
      have H2 := Lib.hid h2
      have HF2 := Lib.hid hf2
      have HO2 := Lib.hid ho2
      have c0 : w2.cell? ⟨f, 0, none⟩ = some (.slice A2 T.length cap2) := h2.box.cell 0
      clear h2 hf2 ho2 c1 KN2
      go_wp2_with (at_builtin
                   refine wpList_str (n := T.length) rfl (.tmp 27) (.tmp 28) _ _ rfl H2.out.seg (bytev_len T).symm Try.underlying9 Try.underlying31 Hi.out Hz0.out Hz1.out Hz2.out rfl rfl rfl (by omega) (by omega) ?_
                   intro A3 cap3 w3 hs3 f3 hf3
                   have hfin := Lib.hid (text_fin H2.out HF2.out HO2.out hs3 f3 hf3)
                   clear hs3 f3 hf3 c0
                   obtain ⟨v3, hc3⟩ := hfin.out.c
                   have hf3 := hfin.out.fr)
      go_end0
      exact ⟨rfl, A3, cap3, hfin.out.wa, hfin.out.f, hfin.out.own⟩
  · have hv : Hid ((if E ≠ 0 then (S, E) else if 200000 < (s.size : Int) then (S, 9) else (S ++ (nb s.size ++ s.data.toList), 0)) = (S, E)) := Lib.hid (by rw [if_pos hE])
    rw [hv.out]
    have d0 : (E != 0) = true := by simp; exact hE
    clear hv fr KN
    go_enter Try.func24, Try.ntmps24
    go_wp2_with fail
    go_end0
    exact ⟨rfl, A, cap, H.out, Fr.refl _ _, fun g hg => Or.inl hg⟩

theorem conv_seg (w : World) (A : Option Addr) (cap : Nat) (S : List UInt8) (h : Seg w 5 A cap (bytev S)) : (convert 31 9 (.slice A S.length cap)).run Try.prog w = .ok (.string (bs S)) w := by
  cases A with
  | none =>
    obtain ⟨h1, rfl⟩ := h.empty
    have h2 : S = [] := by
      have := congrArg List.length h1
      rw [bytev_len] at this
      exact List.eq_nil_of_length_eq_zero this
    subst h2
    exact Lib.run_convert_nil_bytes w _ _ 5 0 Try.underlying31 Try.underlying5 Try.underlying9
  | some a =>
    refine run_convert_bytes_back (P := Try.prog) w 31 9 5 a cap S Try.underlying31 Try.underlying5 Try.underlying9 (fun j hj => ?_)
    obtain ⟨g, off, e, _, hc⟩ := h.at_ (by rw [bytev_len]; omega)
    cases e
    have e1 : (⟨g, off, none⟩ : Addr).add j = ⟨g, off + j, none⟩ := by unfold Addr.add; split <;> simp_all
    rw [e1, hc j (by rw [bytev_len]; exact hj)]
    simp [bytev]

set_option maxRecDepth 100000 in
theorem wd_any (w : World) (f : Nat) (A : Option Addr) (cap : Nat) (st : List UInt8 × Int) (h : WA w f A cap st) :
    Calls Try.prog 11 #[.pointer (some ⟨f, 0, none⟩)] w fun e w' => e = .returned (.tuple #[.string (bs (doneS st)), .int .i64 st.2]) ∧ Below w.heap.size w w' := by
  have c0 : w.cell? ⟨f, 0, none⟩ = some (.slice A st.1.length cap) := h.box.cell 0
  have c1 : w.cell? ⟨f, 1, none⟩ = some (.int .i64 st.2) := h.box.cell 1
  have hcv := conv_seg w A cap st.1 h.seg
  clear h
  obtain ⟨S, E⟩ := st
  unfold doneS
  simp only at c0 c1 hcv ⊢
  by_cases hE : E = 0
  · subst hE
    have hv : Hid ((if (0 : Int) ≠ 0 then ([] : List UInt8) else S) = S) := Lib.hid (if_neg (by simp))
    rw [hv.out]
    clear hv
    go_enter Try.func11, Try.ntmps11
    go_wp2_with fail
    go_ret2
    exact ⟨rfl, Below.refl _ _⟩
  · have hv : Hid ((if E ≠ 0 then ([] : List UInt8) else S) = []) := Lib.hid (if_pos hE)
    rw [hv.out]
    have d0 : (E != 0) = true := by simp; exact hE
    clear hv
    go_enter Try.func11, Try.ntmps11
    go_wp2_with fail
    go_region
    go_wp2_with fail
    go_ret2
    exact ⟨rfl, (Below.refl _ _).drew⟩
end Go.Proofs.Ytcicojobeggdaaa.vr
