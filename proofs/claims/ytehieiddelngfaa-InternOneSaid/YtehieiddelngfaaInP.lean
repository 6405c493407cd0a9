/-
  intern: a table of numbers: At; the law's own closure; a table and a list beside it.
-/
import Derived.Test.YtehieiddelngfaaInO
import Derived.Test.YtehieiddelngfaaInC
import Derived.Test.YtehieiddelngfaaInL
namespace Go.Proofs.Ytehieiddelngfaa.inn
open Go.RowKit Go.Shelf Go.Sort Go.Proofs.Ytehieiddelngfaa.mem

theorem rd_int {w : World} {A : Option Addr} {l : List Int} (h : Rd w A (l.map eI)) (hz : 0 < l.length) : ∃ g o, A = some ⟨g, o, none⟩ ∧ g < w.heap.size ∧ ∀ j (hj : j < l.length), w.cell? ⟨g, o + j, none⟩ = some (eI l[j]) := by
  obtain ⟨g, o, rfl, hl, hc⟩ := h (by simpa using hz)
  exact ⟨g, o, rfl, hl, fun j hj => by rw [hc j (by simpa using hj)]; simp⟩

set_option maxRecDepth 100000 in
theorem at_i (w : World) (b : Nat) (A : Option Addr) (cap : Nat) (xs : List Int) (k : Nat) (v : Value) (hb : Box w b 43 #[v, .slice A xs.length cap]) (hs : Rd w A (xs.map eI)) (hk : k < xs.length) (hm : xs.length ≤ 1000) :
    Calls Try.prog 21 #[.pointer (some ⟨b, 0, none⟩), .int .i64 k] w fun e w' => e = .returned (.tuple #[eI xs[k], .bool true]) ∧ w = w' := by
  have H := Lib.hid (tlen_any w b A cap xs.length v hb)
  have c1 : w.cell? ⟨b, 1, none⟩ = some (.slice A xs.length cap) := hb.cell 1
  have d0 : decide ((k : Int) < 0) = false := decide_eq_false (by omega)
  have d1 : decide ((xs.length : Int) ≤ k) = false := decide_eq_false (by omega)
  obtain ⟨g, off, rfl, hlt, hc⟩ := rd_int hs (by omega)
  have c2 := hc k hk
  clear hs hc hb
  generalize eI xs[k] = z at *
  go_enter Try.func21, Try.ntmps21
  go_wp2_with fail
  refine H.out.mono ?_
  rintro e w1 ⟨rfl, rfl⟩
  go_wp2_with fail
  go_ret2
  exact ⟨rfl, rfl⟩

/-- what the closure makes of good -/
def onB (g : Bool) (k : Nat) (last x : Int) : Bool := g && (decide (k = 0) || decide (last < x))

set_option maxRecDepth 100000 in
theorem told_i (w : World) (bg bt bl bs k : Nat) (s : Nat) (g : Bool) (last x n : Int) (hk : k < 1000) (hs : s < 1000)
    (h1 : Box w bg 4 #[.bool g]) (h2 : Box w bt 3 #[.int .i64 k]) (h3 : Box w bl 3 #[.int .i64 last]) (h4 : Box w bs 3 #[.int .i64 s]) (n1 : bg ≠ bt) (n2 : bg ≠ bl) (n3 : bt ≠ bl) (n4 : bg ≠ bs) (n5 : bt ≠ bs) (n6 : bl ≠ bs) :
    Calls Try.prog 25 #[.int .i64 x, .int .i64 n, .pointer (some ⟨bg, 0, none⟩), .pointer (some ⟨bt, 0, none⟩), .pointer (some ⟨bl, 0, none⟩), .pointer (some ⟨bs, 0, none⟩)] w fun e w' => e = .returned (.bool (decide (k + 1 ≤ s))) ∧ w' = ((w.setCell ⟨bg, 0, none⟩ (.bool (onB g k last x))).setCell ⟨bl, 0, none⟩ (.int .i64 x)).setCell ⟨bt, 0, none⟩ (.int .i64 ((k : Int) + 1)) := by
  obtain ⟨R, hR⟩ : ∃ R, Hid (R = onB g k last x) := ⟨_, Lib.hid rfl⟩
  rw [← hR.out]
  have a1 : Box (w.setCell ⟨bg, 0, none⟩ (.bool R)) bg 4 #[.bool R] := h1.put 0 _
  have f1 : Fr [bg] w (w.setCell ⟨bg, 0, none⟩ (.bool R)) := (Fr.refl [bg] w).setCell (p := ⟨bg, 0, none⟩) (Or.inl (by simp)) _
  have a3 := h3.kept f1 (by simp [Ne.symm n2])
  have a2 := h2.kept f1 (by simp [Ne.symm n1])
  have a4 := h4.kept f1 (by simp [Ne.symm n4])
  have f2 : Fr [bl] (w.setCell ⟨bg, 0, none⟩ (.bool R)) ((w.setCell ⟨bg, 0, none⟩ (.bool R)).setCell ⟨bl, 0, none⟩ (.int .i64 x)) := (Fr.refl [bl] _).setCell (p := ⟨bl, 0, none⟩) (Or.inl (by simp)) _
  have p2 := a2.kept f2 (by simp [n3])
  have p4 := a4.kept f2 (by simp [Ne.symm n6])
  have f3 : Fr [bt] ((w.setCell ⟨bg, 0, none⟩ (.bool R)).setCell ⟨bl, 0, none⟩ (.int .i64 x)) (((w.setCell ⟨bg, 0, none⟩ (.bool R)).setCell ⟨bl, 0, none⟩ (.int .i64 x)).setCell ⟨bt, 0, none⟩ (.int .i64 ((k : Int) + 1))) := (Fr.refl [bt] _).setCell (p := ⟨bt, 0, none⟩) (Or.inl (by simp)) _
  have q2 : Box (((w.setCell ⟨bg, 0, none⟩ (.bool R)).setCell ⟨bl, 0, none⟩ (.int .i64 x)).setCell ⟨bt, 0, none⟩ (.int .i64 ((k : Int) + 1))) bt 3 #[.int .i64 ((k : Int) + 1)] := p2.put 0 _
  have q4 := p4.kept f3 (by simp [Ne.symm n5])
  have c1 : w.cell? ⟨bg, 0, none⟩ = some (.bool g) := h1.cell 0
  have c2 : w.cell? ⟨bt, 0, none⟩ = some (.int .i64 k) := h2.cell 0
  have c3 : w.cell? ⟨bl, 0, none⟩ = some (.int .i64 last) := h3.cell 0
  have z1 : w.frozen? ⟨bg, 0, none⟩ = false := h1.free 0
  have c3' : (w.setCell ⟨bg, 0, none⟩ (.bool R)).cell? ⟨bl, 0, none⟩ = some (.int .i64 last) := a3.cell 0
  have z3 : (w.setCell ⟨bg, 0, none⟩ (.bool R)).frozen? ⟨bl, 0, none⟩ = false := a3.free 0
  have c2' : ((w.setCell ⟨bg, 0, none⟩ (.bool R)).setCell ⟨bl, 0, none⟩ (.int .i64 x)).cell? ⟨bt, 0, none⟩ = some (.int .i64 k) := p2.cell 0
  have z2 : ((w.setCell ⟨bg, 0, none⟩ (.bool R)).setCell ⟨bl, 0, none⟩ (.int .i64 x)).frozen? ⟨bt, 0, none⟩ = false := p2.free 0
  have c2'' : (((w.setCell ⟨bg, 0, none⟩ (.bool R)).setCell ⟨bl, 0, none⟩ (.int .i64 x)).setCell ⟨bt, 0, none⟩ (.int .i64 ((k : Int) + 1))).cell? ⟨bt, 0, none⟩ = some (.int .i64 ((k : Int) + 1)) := q2.cell 0
  have c4'' : (((w.setCell ⟨bg, 0, none⟩ (.bool R)).setCell ⟨bl, 0, none⟩ (.int .i64 x)).setCell ⟨bt, 0, none⟩ (.int .i64 ((k : Int) + 1))).cell? ⟨bs, 0, none⟩ = some (.int .i64 s) := q4.cell 0
  have e9 : decide ((k : Int) + 1 ≤ (s : Int)) = decide (k + 1 ≤ s) := by by_cases h : k + 1 ≤ s; rw [decide_eq_true h, decide_eq_true (by omega)]; rw [decide_eq_false h, decide_eq_false (by omega)]
  rw [← e9]
  clear e9 h1 h2 h3 h4 a1 a2 a3 a4 p2 p4 q2 q4 f1 f2 f3
  generalize hd : decide ((k : Int) + 1 ≤ (s : Int)) = D at *
  have hb : ((k : Int) == 0) = decide (k = 0) := by by_cases h : k = 0; subst h; rfl; rw [decide_eq_false h]; simp; omega
  have hk1 : 0 ≤ (k : Int) ∧ (k : Int) < 1000 := by omega
  generalize (k : Int) = K at *
  cases g with
  | false =>
    obtain rfl : R = false := hR.out
    clear hb
    go_enter Try.func25, Try.ntmps25
    go_wp2_with fail
    go_ret
    exact ⟨rfl, rfl⟩
  | true =>
    by_cases hk0 : k = 0
    · obtain rfl : R = true := by rw [hR.out]; simp [onB, hk0]
      rw [decide_eq_true hk0] at hb
      clear hk0
      go_enter Try.func25, Try.ntmps25
      go_wp2_with fail
      go_ret
      exact ⟨rfl, rfl⟩
    · rw [decide_eq_false hk0] at hb
      rcases e2 : decide (last < x) with _ | _
      · obtain rfl : R = false := by rw [hR.out]; unfold onB; rw [e2, decide_eq_false hk0]; rfl
        clear hk0
        go_enter Try.func25, Try.ntmps25
        go_wp2_with fail
        go_ret
        exact ⟨rfl, rfl⟩
      · obtain rfl : R = true := by rw [hR.out]; unfold onB; rw [e2]; simp
        clear hk0
        go_enter Try.func25, Try.ntmps25
        go_wp2_with fail
        go_ret
        exact ⟨rfl, rfl⟩
end Go.Proofs.Ytehieiddelngfaa.inn
