/-
  pool: Read.
-/
import Derived.Test.YtcicojobeggdaaaPoK
namespace Go.Proofs.Ytcicojobeggdaaa.po
open Go.RowKit Go.Sort Go.Proofs.Ytcicojobeggdaaa.mem Go.Proofs.Ytcicojobeggdaaa.vr

def RdPost (w0 : World) (r : Nat) (S : ByteArray) (R : Nat × Int × Int × List (List UInt8)) (e : Ending) (w' : World) : Prop :=
  (R.2.2.1 = 0 ∧ ∃ b A cap, e = .returned (.tuple #[.pointer (some ⟨b, 0, none⟩), .int .i64 0]) ∧ PR w0 w' r b A cap S R.1 R.2.1 R.2.2.2) ∨
  (R.2.2.1 ≠ 0 ∧ e = .returned (.tuple #[.pointer none, .int .i64 R.2.2.1]) ∧ (∃ er, RD w' r S R.1 er) ∧ Below w0.heap.size w0 w')

/-- between two rounds -/
def LI (S : ByteArray) (n : Nat) (R : Nat × Int × Int × List (List UInt8)) (k p : Nat) (er d : Int) (m : List (List UInt8)) : Prop :=
  (d = 0 ∧ er = 0 ∧ rdF S (n - k) p m = R ∧ p ≤ S.size ∧ (∀ x ∈ m, x.length ≤ 1000) ∧ m.length ≤ k) ∨ (d ≠ 0 ∧ R = (p, er, d, m))

theorem li_step {S : ByteArray} {n k p : Nat} {R : Nat × Int × Int × List (List UInt8)} {m : List (List UInt8)} (h : LI S n R k p 0 0 m) (hk : k < n) : LI S n R (k + 1) (tkF S p m).1 (tkF S p m).2.1 (tkF S p m).2.2.1 (tkF S p m).2.2.2 := by
  rcases h with ⟨_, _, h, hp, hx, hm⟩ | ⟨h, _⟩
  · obtain ⟨j, hj⟩ : ∃ j, n - k = j + 1 := ⟨n - k - 1, by omega⟩
    have hj2 : n - (k + 1) = j := by omega
    rw [hj, rdF] at h
    rcases ht : tkF S p m with ⟨p1, er1, d1, m1⟩
    rw [ht] at h
    simp only at h ⊢
    by_cases hd : d1 = 0
    · subst hd
      rw [if_pos rfl] at h
      obtain ⟨rfl, hp1, x, rfl, hxl, _, _⟩ := tk_way S p m p1 er1 m1 hp ht
      refine Or.inl ⟨rfl, rfl, by rw [hj2]; exact h, hp1, fun y hy => ?_, by simp; omega⟩
      rcases List.mem_append.1 hy with hy | hy
      · exact hx y hy
      · rw [List.mem_singleton] at hy; subst hy; exact hxl
    · rw [if_neg hd] at h
      exact Or.inr ⟨hd, h.symm⟩
  · exact absurd rfl h

theorem rdpost_ok {w0 w' : World} {r b : Nat} {S : ByteArray} {R : Nat × Int × Int × List (List UInt8)} {p : Nat} {er : Int} {m : List (List UInt8)} {A : Option Addr} {cap : Nat} (hR : R = (p, er, 0, m)) (h : PR w0 w' r b A cap S p er m) : RdPost w0 r S R (.returned (.tuple #[.pointer (some ⟨b, 0, none⟩), .int .i64 0])) w' := by
  subst hR
  exact Or.inl ⟨rfl, b, A, cap, rfl, h⟩
theorem rdpost_bad {w0 w' : World} {r : Nat} {S : ByteArray} {R : Nat × Int × Int × List (List UInt8)} {p : Nat} {er d er' : Int} {m : List (List UInt8)} (hR : R = (p, er, d, m)) (hd : d ≠ 0) (h : RD w' r S p er') (hb : Below w0.heap.size w0 w') : RdPost w0 r S R (.returned (.tuple #[.pointer none, .int .i64 d])) w' := by
  subst hR
  exact Or.inr ⟨hd, rfl, ⟨er', h⟩, hb⟩

theorem pr_new {w0 w : World} {r : Nat} {S : ByteArray} {p : Nat} {er : Int} (h : RD w r S p er) (on : Below w0.heap.size w0 w) (hr : w0.heap.size ≤ r) : PR w0 (w.alloc (.cells #[.slice none 0 0] 51)) r w.heap.size none 0 S p er [] :=
  ⟨⟨h.box.kept ((Fr.refl [] w).alloc _) (by simp)⟩, Box.new w _ _, Seg.nil _ _, on.alloc on.size _, hr, on.size, by simp [blk]⟩

set_option maxRecDepth 100000 in
set_option maxHeartbeats 1000000 in
theorem read_any (w0 w : World) (r : Nat) (S : ByteArray) (p : Nat) (h : RD w r S p 0) (on : Below w0.heap.size w0 w) (hr : w0.heap.size ≤ r) (hS : S.size ≤ 200000000) (hp : p ≤ S.size) :
    Calls Try.prog 17 #[.pointer (some ⟨r, 0, none⟩)] w (RdPost w0 r S (rdT S p)) := by
  have K1 := Lib.hid (reads_int w r S p h (by unfold maxLen; omega) hp)
  unfold VPost at K1
  have ON : Hid (∀ w', Fr [r] w w' → Below w0.heap.size w0 w') := Lib.hid (fun w' hf => on.trans (hf.below (by simpa using hr) on.size))
  have HR := Lib.hid hr
  have KF := Lib.hid (fun (w' : World) p er d (h : RD w' r S p er) => rd_fail w' r S p er d h)
  have PN := Lib.hid (fun (w' : World) p er (h : RD w' r S p er) (on : Below w0.heap.size w0 w') => pr_new h on hr)
  have FB : Hid (∀ (w' w2 : World), Below w0.heap.size w0 w' → Fr [r] w' w2 → Below w0.heap.size w0 w2) := Lib.hid (fun w' w2 on hf => on.trans (hf.below (by simpa using hr) on.size))
  clear h on hr
  by_cases c1 : nE S p 0 = 0
  case neg =>
    have hn0 := (n_bad c1).2
    have hv : rdT S p = (nP S p 0, nE S p 0, nE S p 0, []) := by unfold rdT; rw [if_pos c1]
    have HV := Lib.hid hv
    have d1 : (nE S p 0 == 0) = false := by simpa using c1
    have d2 : (nE S p 0 != 0) = true := by simpa using c1
    have C1 := Lib.hid c1
    rw [hn0] at K1
    clear hv c1 hn0 hp hS
    generalize rdT S p = R at *
    generalize nE S p 0 = er at *
    generalize nP S p 0 = p1 at *
    go_enter Try.func17, Try.ntmps17
    go_wp2_with fail
    refine K1.out.mono ?_
    rintro e w1 ⟨rfl, h1, f1⟩
    have P2 := Lib.hid (PN.out w1 p1 er h1 (ON.out w1 f1))
    clear h1 f1 K1
    go_wp2_with fail
    go_loopw [5, 7] (fun ev i wr => i = .int .i64 0 ∧ ev = .int .i64 er ∧ Hid (PR w0 wr r w1.heap.size none 0 S p1 er [])) (fun _ _ _ => 0)
    case atStart => exact ⟨rfl, rfl, P2⟩
    case round =>
      obtain ⟨rfl, rfl, hpr⟩ := hrel
      rename_i wr _
      go_wp2_with fail
      refine (KF.out _ _ _ er hpr.out.rd).mono ?_
      rintro e w3 ⟨rfl, h3, f3⟩
      have T := Lib.hid (rdpost_bad HV.out C1.out h3 (FB.out _ _ hpr.out.on f3))
      clear h3 f3
      go_wp2_with fail
      go_ret2
      exact T.out
  by_cases c2 : 6000 < nV S p 0
  case pos =>
    have hv : rdT S p = (nP S p 0, 0, 4, []) := by unfold rdT; rw [if_neg (by simp [c1]), if_pos c2]
    have HV := Lib.hid hv
    have d1 : decide ((6000 : Int) < ((nV S p 0 : Nat) : Int)) = true := decide_eq_true (by omega)
    have d2 : decide ((0 : Int) < ((nV S p 0 : Nat) : Int)) = true := decide_eq_true (by omega)
    have d3 : 0 < nV S p 0 := by omega
    rw [c1] at K1
    clear hv c1 c2 hp hS
    generalize rdT S p = R at *
    generalize nP S p 0 = p1 at *
    generalize nV S p 0 = v at *
    go_enter Try.func17, Try.ntmps17
    go_wp2_with fail
    refine K1.out.mono ?_
    rintro e w1 ⟨rfl, h1, f1⟩
    have P2 := Lib.hid (PN.out w1 p1 0 h1 (ON.out w1 f1))
    clear h1 f1 K1
    go_wp2_with fail
    go_loopw [5, 7] (fun ev i wr => i = .int .i64 0 ∧ ev = .int .i64 4 ∧ Hid (PR w0 wr r w1.heap.size none 0 S p1 0 [])) (fun _ _ _ => 0)
    case atStart => exact ⟨rfl, rfl, P2⟩
    case round =>
      obtain ⟨rfl, rfl, hpr⟩ := hrel
      rename_i wr _
      go_wp2_with fail
      refine (KF.out _ _ _ 4 hpr.out.rd).mono ?_
      rintro e w3 ⟨rfl, h3, f3⟩
      have T := Lib.hid (rdpost_bad HV.out (by omega) h3 (FB.out _ _ hpr.out.on f3))
      clear h3 f3
      go_wp2_with fail
      go_ret2
      exact T.out
  have hv : rdT S p = rdF S (nV S p 0) (nP S p 0) [] := by unfold rdT; rw [if_neg (by simp [c1]), if_neg c2]
  obtain ⟨_, hp1⟩ := n_ok hp c1
  have L0 : Hid (LI S (nV S p 0) (rdT S p) 0 (nP S p 0) 0 0 []) := Lib.hid (Or.inl ⟨rfl, rfl, by rw [hv]; rfl, hp1, by simp, by simp⟩)
  have d1 : decide ((6000 : Int) < ((nV S p 0 : Nat) : Int)) = false := decide_eq_false (by omega)
  rw [c1] at K1
  clear hv c1 hp hp1
  generalize rdT S p = R at *
  generalize nP S p 0 = p1 at *
  generalize nV S p 0 = v at *
  go_enter Try.func17, Try.ntmps17
  go_wp2_with fail
  refine K1.out.mono ?_
  rintro e w1 ⟨rfl, h1, f1⟩
  have P2 := Lib.hid (PN.out w1 p1 0 h1 (ON.out w1 f1))
  clear h1 f1 K1
  go_wp2_with fail
  go_loopw [5, 7] (fun ev i wr => ∃ (k q : Nat) (er d : Int) (m : List (List UInt8)) (A : Option Addr) (cap : Nat), k ≤ v ∧ i = .int .i64 k ∧ ev = .int .i64 d ∧ Hid (PR w0 wr r w1.heap.size A cap S q er m) ∧ Hid (LI S v R k q er d m)) (fun _ i _ => v - (intOf i).toNat)
  case atStart => exact ⟨0, p1, 0, 0, [], none, 0, by omega, rfl, rfl, P2, L0⟩
  case round =>
    obtain ⟨k, q, er, d, m, A, cap, hk, rfl, rfl, hpr, hli⟩ := hrel
    rename_i wr _
    by_cases hd : d = 0
    · subst hd
      have h0 : er = 0 := by
        rcases hli.out with h | ⟨h, _⟩
        · exact h.2.1
        · exact absurd rfl h
      subst h0
      by_cases hkv : k < v
      · have e1 : decide ((k : Int) < (v : Int)) = true := decide_eq_true (by omega)
        have KT : Hid (Calls Try.prog 30 #[.pointer (some ⟨w1.heap.size, 0, none⟩), .pointer (some ⟨r, 0, none⟩)] wr (TkPost w0 r w1.heap.size S (tkF S q m))) := by
          rcases hli.out with ⟨_, _, _, hp, hx, hm⟩ | ⟨h, _⟩
          · exact Lib.hid (take_any w0 wr r w1.heap.size A cap S q m hpr.out hS hp (by omega) hx)
          · exact absurd rfl h
        have LS := Lib.hid (li_step hli.out hkv)
        clear hli
        generalize tkF S q m = U at *
        obtain ⟨q2, er2, d2, m2⟩ := U
        have KT : Hid (Calls Try.prog 30 #[.pointer (some ⟨w1.heap.size, 0, none⟩), .pointer (some ⟨r, 0, none⟩)] wr fun e w' => e = .returned (.int .i64 d2) ∧ ∃ A' cap', PR w0 w' r w1.heap.size A' cap' S q2 er2 m2) := KT
        have LS : Hid (LI S v R (k + 1) q2 er2 d2 m2) := LS
        clear hpr
        go_wp2_with fail
        refine KT.out.mono ?_
        rintro e w2 ⟨rfl, A2, cap2, h2⟩
        have P3 := Lib.hid h2
        clear h2 KT
        go_wp2_with fail
        go_roundw
        case rel => exact ⟨k + 1, q2, er2, d2, m2, A2, cap2, by omega, by go_num, rfl, P3, LS⟩
        case measure => simp [intOf]; omega
      · obtain rfl : k = v := by omega
        have e1 : decide ((k : Int) < (k : Int)) = false := decide_eq_false (by omega)
        have hR : R = (q, 0, 0, m) := by
          rcases hli.out with ⟨_, _, h, _⟩ | ⟨h, _⟩
          · rw [Nat.sub_self, rdF] at h
            exact h.symm
          · exact absurd rfl h
        have T := Lib.hid (rdpost_ok hR hpr.out)
        clear hR hli hpr
        go_wp2_with fail
        go_ret2
        exact T.out
    · have e2 : (d == 0) = false := by simpa using hd
      have e3 : (d != 0) = true := by simpa using hd
      have hR : R = (q, er, d, m) := by
        rcases hli.out with ⟨h, _⟩ | ⟨_, h⟩
        · exact absurd h hd
        · exact h
      have HR2 := Lib.hid hR
      have HD := Lib.hid hd
      clear hR hli hd
      by_cases hkv : k < v
      · have e1 : decide ((k : Int) < (v : Int)) = true := decide_eq_true (by omega)
        go_wp2_with fail
        refine (KF.out _ _ _ d hpr.out.rd).mono ?_
        rintro e w3 ⟨rfl, h3, f3⟩
        have T := Lib.hid (rdpost_bad HR2.out HD.out h3 (FB.out _ _ hpr.out.on f3))
        clear h3 f3
        go_wp2_with fail
        go_ret2
        exact T.out
      · have e1 : decide ((k : Int) < (v : Int)) = false := decide_eq_false (by omega)
        go_wp2_with fail
        refine (KF.out _ _ _ d hpr.out.rd).mono ?_
        rintro e w3 ⟨rfl, h3, f3⟩
        have T := Lib.hid (rdpost_bad HR2.out HD.out h3 (FB.out _ _ hpr.out.on f3))
        clear h3 f3
        go_wp2_with fail
        go_ret2
        exact T.out
end Go.Proofs.Ytcicojobeggdaaa.po
