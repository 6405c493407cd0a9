/-
  pool: reads; one more text taken.
-/
import Derived.Test.YtcicojobeggdaaaPoI
import Derived.Test.YtcicojobeggdaaaPoC
import Derived.Test.YtcicojobeggdaaaVrD
namespace Go.Proofs.Ytcicojobeggdaaa.po
open Go.RowKit Go.Sort Go.Proofs.Ytcicojobeggdaaa.mem Go.Proofs.Ytcicojobeggdaaa.vr

theorem n_ok {S : ByteArray} {p : Nat} (hp : p ≤ S.size) (h : nE S p 0 = 0) : p < nP S p 0 ∧ nP S p 0 ≤ S.size := by
  have c0 : (ct S p).2.2 = 0 := by unfold nE at h; simpa using h
  obtain ⟨d1, d2, d3⟩ := ct_fits hp c0
  have := nb_pos (ct S p).1
  unfold nP
  simp only [ne_eq, not_true_eq_false, if_false]
  omega

theorem n_bad {S : ByteArray} {p : Nat} (h : nE S p 0 ≠ 0) : nP S p 0 = p ∧ nV S p 0 = 0 := by
  have c0 : (ct S p).2.2 ≠ 0 := by
    intro h2
    apply h
    unfold nE
    simp [h2]
  have := ct_bad S p c0
  unfold nP nV
  simp [this.1, this.2]

theorem t_ok {S : ByteArray} {p : Nat} (hp : p ≤ S.size) (h : (tx S p 0).2.2 = 0) : p < (tx S p 0).2.1 ∧ (tx S p 0).2.1 ≤ S.size := by
  unfold tx at h ⊢
  rw [if_neg (by simp)] at h ⊢
  split at h
  · rename_i h2
    exact absurd (by simpa using h) h2
  · rename_i h2
    rw [if_neg h2]
    split at h
    · simp at h
    · rename_i h3
      rw [if_neg h3]
      obtain ⟨d1, d2, d3⟩ := ct_fits hp (by simpa using h2)
      have := nb_pos (ct S p).1
      show p < p + (ct S p).2.1 + (ct S p).1 ∧ p + (ct S p).2.1 + (ct S p).1 ≤ S.size
      omega

theorem t_bad {S : ByteArray} {p : Nat} (h : (tx S p 0).2.2 ≠ 0) : (tx S p 0).2.1 = p ∧ (tx S p 0).1 = ⟨#[]⟩ := by
  unfold tx at h ⊢
  rw [if_neg (by simp)] at h ⊢
  split
  · exact ⟨rfl, rfl⟩
  · rename_i h2
    rw [if_neg h2] at h
    split
    · exact ⟨rfl, rfl⟩
    · rename_i h3
      rw [if_neg h3] at h
      simp at h

theorem fr1 {r : Nat} {a b c : World} (h : Fr [r] a b) (k : Fr [r] b c) : Fr [r] a c := h.trans k (fun g hg => Or.inl hg) (fun g hg => Or.inl hg)

def VPost (w : World) (r : Nat) (S : ByteArray) (v : Value) (p : Nat) (er : Int) (e : Ending) (w' : World) : Prop := e = .returned (.tuple #[v, .int .i64 er]) ∧ RD w' r S p er ∧ Fr [r] w w'

set_option maxRecDepth 100000 in
theorem reads_int (w : World) (r : Nat) (S : ByteArray) (p : Nat) (h : RD w r S p 0) (hs : S.size ≤ maxLen) (hp : p ≤ S.size) :
    Calls Try.prog 28 #[.pointer (some ⟨r, 0, none⟩), .func (.func 29) #[.pointer (some ⟨r, 0, none⟩)] #[]] w (VPost w r S (.int .i64 (nV S p 0)) (nP S p 0) (nE S p 0)) := by
  have K1 := Lib.hid (rd_done w r S p 0 h)
  have K2 := Lib.hid (fun w' (h : RD w' r S p 0) => rd_number w' r S p 0 h hs hp)
  have K3 := Lib.hid (fun w' (h : RD w' r S (nP S p 0) (nE S p 0)) => rd_done w' r S (nP S p 0) (nE S p 0) h)
  by_cases hE : nE S p 0 = 0
  · obtain ⟨hlt, _⟩ := n_ok hp hE
    rw [hE] at K2 K3 ⊢
    clear h hE
    generalize nP S p 0 = p1 at *
    generalize nV S p 0 = v at *
    have d1 : decide ((p : Int) < (p1 : Int)) = true := decide_eq_true (by omega)
    go_enter Try.func28, Try.ntmps28
    go_wp2_with fail
    refine K1.out.mono ?_
    rintro e w1 ⟨rfl, h1, f1⟩
    have H1 := Lib.hid h1
    have F1 := Lib.hid f1
    clear h1 f1 K1
    go_wp2_with fail
    refine (K2.out _ H1.out).mono ?_
    rintro e w2 ⟨rfl, h2, f2⟩
    have H2 := Lib.hid h2
    have F2 := Lib.hid (fr1 F1.out f2)
    clear h2 f2 K2 H1 F1
    go_wp2_with fail
    refine (K3.out _ H2.out).mono ?_
    rintro e w3 ⟨rfl, h3, f3⟩
    have H3 := Lib.hid h3
    have F3 := Lib.hid (fr1 F2.out f3)
    clear h3 f3 K3 H2 F2
    go_wp2_with fail
    go_ret2
    exact ⟨rfl, H3.out, F3.out⟩
  · obtain ⟨h1, h2⟩ := n_bad hE
    rw [h1, h2] at K2 ⊢
    rw [h1] at K3
    have e3 : dE S p (nE S p 0) = nE S p 0 := if_neg (fun h => hE h.1)
    rw [e3] at K3
    clear h h1 h2 e3 hE
    generalize nE S p 0 = er at *
    have d1 : decide ((p : Int) < (p : Int)) = false := decide_eq_false (by omega)
    go_enter Try.func28, Try.ntmps28
    go_wp2_with fail
    refine K1.out.mono ?_
    rintro e w1 ⟨rfl, h1, f1⟩
    have H1 := Lib.hid h1
    have F1 := Lib.hid f1
    clear h1 f1 K1
    go_wp2_with fail
    refine (K2.out _ H1.out).mono ?_
    rintro e w2 ⟨rfl, h2, f2⟩
    have H2 := Lib.hid h2
    have F2 := Lib.hid (fr1 F1.out f2)
    clear h2 f2 K2 H1 F1
    go_wp2_with fail
    refine (K3.out _ H2.out).mono ?_
    rintro e w3 ⟨rfl, h3, f3⟩
    have H3 := Lib.hid h3
    have F3 := Lib.hid (fr1 F2.out f3)
    clear h3 f3 K3 H2 F2
    go_wp2_with fail
    go_ret2
    exact ⟨rfl, H3.out, F3.out⟩

set_option maxRecDepth 100000 in
theorem reads_str (w : World) (r : Nat) (S : ByteArray) (p : Nat) (h : RD w r S p 0) (hs : S.size ≤ maxLen) (hp : p ≤ S.size) :
    Calls Try.prog 38 #[.pointer (some ⟨r, 0, none⟩), .func (.func 39) #[.pointer (some ⟨r, 0, none⟩)] #[]] w (VPost w r S (.string (tx S p 0).1) (tx S p 0).2.1 (tx S p 0).2.2) := by
  have K1 := Lib.hid (rd_done w r S p 0 h)
  have K2 := Lib.hid (fun w' (h : RD w' r S p 0) => rd_text w' r S p 0 h hs hp)
  have K3 := Lib.hid (fun w' (h : RD w' r S (tx S p 0).2.1 (tx S p 0).2.2) => rd_done w' r S (tx S p 0).2.1 (tx S p 0).2.2 h)
  by_cases hE : (tx S p 0).2.2 = 0
  · obtain ⟨hlt, _⟩ := t_ok hp hE
    rw [hE] at K2 K3 ⊢
    clear h hE
    generalize (tx S p 0).2.1 = p1 at *
    generalize (tx S p 0).1 = v at *
    have d1 : decide ((p : Int) < (p1 : Int)) = true := decide_eq_true (by omega)
    go_enter Try.func38, Try.ntmps38
    go_wp2_with fail
    refine K1.out.mono ?_
    rintro e w1 ⟨rfl, h1, f1⟩
    have H1 := Lib.hid h1
    have F1 := Lib.hid f1
    clear h1 f1 K1
    go_wp2_with fail
    refine (K2.out _ H1.out).mono ?_
    rintro e w2 ⟨rfl, h2, f2⟩
    have H2 := Lib.hid h2
    have F2 := Lib.hid (fr1 F1.out f2)
    clear h2 f2 K2 H1 F1
    go_wp2_with fail
    refine (K3.out _ H2.out).mono ?_
    rintro e w3 ⟨rfl, h3, f3⟩
    have H3 := Lib.hid h3
    have F3 := Lib.hid (fr1 F2.out f3)
    clear h3 f3 K3 H2 F2
    go_wp2_with fail
    go_ret2
    exact ⟨rfl, H3.out, F3.out⟩
  · obtain ⟨h1, h2⟩ := t_bad hE
    rw [h1, h2] at K2 ⊢
    rw [h1] at K3
    have e3 : dE S p (tx S p 0).2.2 = (tx S p 0).2.2 := if_neg (fun h => hE h.1)
    rw [e3] at K3
    clear h h1 h2 e3 hE
    generalize (tx S p 0).2.2 = er at *
    have d1 : decide ((p : Int) < (p : Int)) = false := decide_eq_false (by omega)
    go_enter Try.func38, Try.ntmps38
    go_wp2_with fail
    refine K1.out.mono ?_
    rintro e w1 ⟨rfl, h1, f1⟩
    have H1 := Lib.hid h1
    have F1 := Lib.hid f1
    clear h1 f1 K1
    go_wp2_with fail
    refine (K2.out _ H1.out).mono ?_
    rintro e w2 ⟨rfl, h2, f2⟩
    have H2 := Lib.hid h2
    have F2 := Lib.hid (fr1 F1.out f2)
    clear h2 f2 K2 H1 F1
    go_wp2_with fail
    refine (K3.out _ H2.out).mono ?_
    rintro e w3 ⟨rfl, h3, f3⟩
    have H3 := Lib.hid h3
    have F3 := Lib.hid (fr1 F2.out f3)
    clear h3 f3 K3 H2 F2
    go_wp2_with fail
    go_ret2
    exact ⟨rfl, H3.out, F3.out⟩
end Go.Proofs.Ytcicojobeggdaaa.po
