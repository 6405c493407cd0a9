/-
  intern: Find, At of a table of texts; the reference's Number.
-/
import Derived.Test.YtehieiddelngfaaInF
namespace Go.Proofs.Ytehieiddelngfaa.ins
open Go.RowKit Go.Shelf Go.Proofs.Ytehieiddelngfaa.mem Go.Proofs.Ytehieiddelngfaa.inn

theorem find_any (w : World) (b : Nat) (m : Option Nat) (N : Nat) (xs : List (List UInt8)) (x : List UInt8) (v : Value) (hb : Box w b 27 #[.map m, v]) (hs : Held w m N xs) (hx : WF x) :
    Calls Try.prog 13 #[.pointer (some ⟨b, 0, none⟩), encStr x] w fun e w' => e = .returned (.tuple #[.int .i64 (noOf xs x : Nat), .bool (decide (x ∈ xs))]) ∧ w = w' := by
  have hl := hs.look x hx
  have c0 : w.cell? ⟨b, 0, none⟩ = some (.map m) := hb.cell 0
  generalize noOf xs x = r at *
  generalize decide (x ∈ xs) = q at *
  clear hb hs hx
  go_enter Try.func13, Try.ntmps13
  go_wp2_with fail
  go_ret2
  exact ⟨rfl, rfl⟩

/-- what At answers -/
def atV (xs : List (List UInt8)) (n : Int) : Value := if h : 0 ≤ n ∧ n < xs.length then .tuple #[encStr (xs[n.toNat]'(by omega)), .bool true] else .tuple #[.string ⟨#[]⟩, .bool false]

set_option maxRecDepth 100000 in
theorem at_any (w : World) (b : Nat) (A : Option Addr) (cap : Nat) (xs : List (List UInt8)) (n : Int) (v : Value) (hb : Box w b 27 #[v, .slice A xs.length cap]) (hs : Rd w A (xs.map encStr)) :
    Calls Try.prog 14 #[.pointer (some ⟨b, 0, none⟩), .int .i64 n] w fun e w' => e = .returned (atV xs n) ∧ w = w' := by
  have H := Lib.hid (tlen_any w b A cap xs.length v hb)
  have c1 : w.cell? ⟨b, 1, none⟩ = some (.slice A xs.length cap) := hb.cell 1
  clear hb
  by_cases h0 : n < 0
  · have d0 : decide (n < 0) = true := decide_eq_true h0
    have hv : atV xs n = .tuple #[.string ⟨#[]⟩, .bool false] := by unfold atV; rw [dif_neg (by omega)]
    rw [hv]
    clear hv
    go_enter Try.func14, Try.ntmps14
    go_wp2_with fail
    go_ret2
    exact ⟨rfl, rfl⟩
  have d0 : decide (n < 0) = false := decide_eq_false h0
  by_cases h1 : (xs.length : Int) ≤ n
  · have d1 : decide ((xs.length : Int) ≤ n) = true := decide_eq_true h1
    have hv : atV xs n = .tuple #[.string ⟨#[]⟩, .bool false] := by unfold atV; rw [dif_neg (by omega)]
    rw [hv]
    clear hv
    go_enter Try.func14, Try.ntmps14
    go_wp2_with fail
    refine H.out.mono ?_
    rintro e w1 ⟨rfl, rfl⟩
    go_wp2_with fail
    go_ret2
    exact ⟨rfl, rfl⟩
  · have d1 : decide ((xs.length : Int) ≤ n) = false := decide_eq_false h1
    obtain ⟨k, rfl⟩ : ∃ k : Nat, n = k := ⟨n.toNat, by omega⟩
    have hk : k < xs.length := by omega
    have hv : atV xs k = .tuple #[encStr xs[k], .bool true] := by unfold atV; rw [dif_pos (by omega)]; simp
    obtain ⟨g, off, rfl, hlt, hc⟩ := rd_str hs (by omega)
    have c2 := hc k hk
    rw [hv]
    clear hv hs hc
    generalize encStr xs[k] = z at *
    go_enter Try.func14, Try.ntmps14
    go_wp2_with fail
    refine H.out.mono ?_
    rintro e w1 ⟨rfl, rfl⟩
    go_wp2_with fail
    go_ret2
    exact ⟨rfl, rfl⟩
end Go.Proofs.Ytehieiddelngfaa.ins
