import Derived.Test.YtdmmkjijgoiecaaV22
import Derived.Laws.Cover1
import Derived.Sort.Walk0
/-
  system: how two texts, two numbers, two lists of texts stand.
-/
set_option linter.all false
namespace Go.Proofs.Ytdmmkjijgoiecaa.sy
open Go.RowKit Go.Sort Go.Proofs.Ytdmmkjijgoiecaa.mem

def lessB (a b : ByteArray) : Bool := Op.bytesLess a.toList b.toList
def txtC (a b : ByteArray) : Int := bif lessB a b then -1 else bif lessB b a then 1 else 0
def intC (a b : Int) : Int := if a < b then -1 else if b < a then 1 else 0

theorem gtr_less (a b : List UInt8) : (!(Op.bytesLess a b || a == b)) = Op.bytesLess b a := by
  rw [bytesLess_eq, bytesLess_eq]
  by_cases h1 : a < b
  · have h2 : ¬ b < a := fun h => List.lt_irrefl a (List.lt_trans h1 h)
    simp [h1, h2]
  · by_cases h2 : a = b
    · subst h2
      simp [List.lt_irrefl]
    · have h3 : b < a := by
        rcases List.le_iff_lt_or_eq.1 (List.not_lt.1 h1) with h | h
        · exact h
        · exact absurd h.symm h2
      simp [h1, h2, h3]

def SPost (x : Int) (w : World) (e : Ending) (w' : World) : Prop := e = .returned (.int .i64 x) ∧ w' = w

theorem rints (a b : Int) (w : World) : Calls Try.prog 75 #[.int .i64 a, .int .i64 b] w (SPost (intC a b) w) := by
  unfold intC
  by_cases h1 : a < b
  · have d1 : decide (a < b) = true := decide_eq_true h1
    rw [if_pos h1]
    go_enter Try.func75, Try.ntmps75
    go_wp2_with fail
    go_ret
    exact ⟨rfl, rfl⟩
  · have d1 : decide (a < b) = false := decide_eq_false h1
    rw [if_neg h1]
    by_cases h2 : b < a
    · have d2 : decide (b < a) = true := decide_eq_true h2
      rw [if_pos h2]
      go_enter Try.func75, Try.ntmps75
      go_wp2_with fail
      go_ret
      exact ⟨rfl, rfl⟩
    · have d2 : decide (b < a) = false := decide_eq_false h2
      rw [if_neg h2]
      go_enter Try.func75, Try.ntmps75
      go_wp2_with fail
      go_ret
      exact ⟨rfl, rfl⟩

theorem rtexts (a b : ByteArray) (w : World) : Calls Try.prog 76 #[.string a, .string b] w (SPost (txtC a b) w) := by
  have hg := gtr_less a.toList b.toList
  unfold txtC lessB
  rcases h1 : Op.bytesLess a.toList b.toList with _ | _
  · rw [cond_false]
    rw [h1, Bool.false_or] at hg
    rcases h2 : Op.bytesLess b.toList a.toList with _ | _
    · rw [cond_false]
      rw [h2] at hg
      have he : (a.toList == b.toList) = true := by simpa using hg
      clear hg
      go_enter Try.func76, Try.ntmps76
      go_wp2_with fail
      go_ret
      exact ⟨rfl, rfl⟩
    · rw [cond_true]
      rw [h2] at hg
      have he : (a.toList == b.toList) = false := by simpa using hg
      clear hg
      go_enter Try.func76, Try.ntmps76
      go_wp2_with fail
      go_ret
      exact ⟨rfl, rfl⟩
  · rw [cond_true]
    clear hg
    go_enter Try.func76, Try.ntmps76
    go_wp2_with fail
    go_ret
    exact ⟨rfl, rfl⟩

end Go.Proofs.Ytdmmkjijgoiecaa.sy

/-
  system: the first that is not 0; two lists of texts.
-/
set_option linter.all false
namespace Go.Proofs.Ytdmmkjijgoiecaa.sy
open Go.RowKit Go.Sort Go.Proofs.Ytdmmkjijgoiecaa.mem

def fstN : List Int → Int
  | [] => 0
  | x :: r => if x = 0 then fstN r else x
def lstC : List ByteArray → List ByteArray → Int
  | [], [] => 0
  | [], _ :: _ => -1
  | _ :: _, [] => 1
  | a :: r, b :: s => if txtC a b = 0 then lstC r s else txtC a b

theorem fstN_drop {l : List Int} {k : Nat} (hk : k < l.length) : fstN (l.drop k) = if l[k] = 0 then fstN (l.drop (k + 1)) else l[k] := by
  rw [List.drop_eq_getElem_cons hk]
  rfl
theorem fstN_end (l : List Int) : fstN (l.drop l.length) = 0 := by
  rw [List.drop_length]
  rfl

def ints (l : List Int) : List Value := l.map fun x => .int .i64 x

theorem rd_ints {w : World} {A : Option Addr} {l : List Int} (h : Rd w A (ints l)) (hz : 0 < l.length) : ∃ g o, A = some ⟨g, o, none⟩ ∧ g < w.heap.size ∧ ∀ j (hj : j < l.length), w.cell? ⟨g, o + j, none⟩ = some (.int .i64 l[j]) := by
  obtain ⟨g, o, rfl, hl, hc⟩ := h (by simpa [ints] using hz)
  exact ⟨g, o, rfl, hl, fun j hj => by rw [hc j (by simpa [ints] using hj)]; simp [ints]⟩
theorem rd_txts {w : World} {A : Option Addr} {l : List ByteArray} (h : Rd w A (l.map Value.string)) (hz : 0 < l.length) : ∃ g o, A = some ⟨g, o, none⟩ ∧ g < w.heap.size ∧ ∀ j (hj : j < l.length), w.cell? ⟨g, o + j, none⟩ = some (.string l[j]) := by
  obtain ⟨g, o, rfl, hl, hc⟩ := h (by simpa using hz)
  exact ⟨g, o, rfl, hl, fun j hj => by rw [hc j (by simpa using hj)]; simp⟩

end Go.Proofs.Ytdmmkjijgoiecaa.sy
