import Derived.Test.YtdmmkjijgoiecaaUPo
import Derived.Test.YtdmmkjijgoiecaaV01
import Derived.Sort.EncStr
import Derived.Sort.Walk0
/-
  pool: the library's search in a rising slice of texts.
-/
set_option linter.all false
namespace Go.Proofs.Ytdmmkjijgoiecaa.po
open Go.RowKit Go.Sort Go.Proofs.Ytdmmkjijgoiecaa.mem

theorem bytesLess_dec (a b : List UInt8) : Op.bytesLess a b = decide (a < b) := by rw [bytesLess_eq]

set_option maxRecDepth 100000 in
theorem nan1 (x : List UInt8) (w : World) : Calls Try.prog 95 #[encStr x] w fun e w' => e = .returned (.bool false) ∧ w' = w := by
  have d : (x == x) = true := by simp
  unfold encStr
  go_enter Try.func95, Try.ntmps95
  go_wp2_with fail
  go_ret
  exact ⟨by simp, rfl⟩

set_option maxRecDepth 100000 in
theorem nan2 (x : List UInt8) (w : World) : Calls Try.prog 120 #[encStr x] w fun e w' => e = .returned (.bool false) ∧ w' = w := by
  have d : (x == x) = true := by simp
  unfold encStr
  go_enter Try.func120, Try.ntmps120
  go_wp2_with fail
  go_ret
  exact ⟨by simp, rfl⟩

set_option maxRecDepth 100000 in
theorem less_any (x y : List UInt8) (w : World) : Calls Try.prog 85 #[encStr x, encStr y] w fun e w' => e = .returned (.bool (decide (x < y))) ∧ w' = w := by
  have K := Lib.hid (fun w => nan1 x w)
  obtain ⟨r, hr⟩ : ∃ r, Op.bytesLess x y = r := ⟨_, rfl⟩
  rw [← bytesLess_dec, hr]
  unfold encStr at K ⊢
  go_enter Try.func85, Try.ntmps85
  go_wp2_with (go_at_call 95; refine (K.out _).mono ?_; rintro e w' ⟨rfl, rfl⟩)
  go_ret
  exact ⟨rfl, rfl⟩

theorem rdS {w : World} {A : Option Addr} {l : List (List UInt8)} (h : Rd w A (l.map encStr)) (hz : 0 < l.length) : ∃ g o, A = some ⟨g, o, none⟩ ∧ g < w.heap.size ∧ ∀ j (hj : j < l.length), w.cell? ⟨g, o + j, none⟩ = some (encStr l[j]) := by
  obtain ⟨g, o, rfl, hl, hc⟩ := h (by simpa using hz)
  exact ⟨g, o, rfl, hl, fun j hj => by rw [hc j (by simpa using hj)]; simp⟩

set_option maxRecDepth 100000 in
theorem search_any (w : World) (A : Option Addr) (cap : Nat) (m : List (List UInt8)) (x : List UInt8) (h : Rd w A (m.map encStr)) (hp : m.Pairwise (fun a b => a < b)) (hm : m.length ≤ 1000000) :
    Calls Try.prog 119 #[.slice A m.length cap, encStr x] w fun e w' => e = .returned (.tuple #[.int .i64 (upS m x : Nat), .bool (decide (x ∈ m))]) ∧ Below w.heap.size w w' := by
  have K := Lib.hid (fun a b w => less_any a b w)
  have K2 := Lib.hid (fun a w => nan2 a w)
  have Hh := Lib.hid h
  have Hs := Lib.hid (sorted_lt m x hp)
  have He := Lib.hid (search_end m x)
  have Ha : Hid ((∃ h : upS m x < m.length, m[upS m x] = x) ↔ x ∈ m) := Lib.hid (up_at m x hp)
  clear h hp
  obtain ⟨u, hu⟩ : ∃ u, upS m x = u := ⟨_, rfl⟩
  obtain ⟨r, hr⟩ : ∃ r, decide (x ∈ m) = r := ⟨_, rfl⟩
  have Hu := Lib.hid hu
  have Hr := Lib.hid hr
  rw [hu, hr]
  clear hu hr
  go_enter Try.func119, Try.ntmps119
  go_wp2_with fail
  go_loopw [7, 8] (fun a b wr => ∃ (i j : Nat), i ≤ j ∧ j ≤ m.length ∧ a = .int .i64 i ∧ b = .int .i64 j ∧ Hid (∀ k (hk : k < m.length), k < i → m[k] < x) ∧ Hid (∀ k (hk : k < m.length), j ≤ k → ¬ m[k] < x) ∧ Hid (Below w.heap.size w wr)) (fun a b _ => (intOf b).toNat - (intOf a).toNat)
  case atStart => exact ⟨0, m.length, by omega, by omega, rfl, rfl, Lib.hid (fun k _ h => by omega), Lib.hid (fun k hk h => by omega), Lib.hid (Below.refl _ _)⟩
  case round =>
    obtain ⟨i, j, hij, hj, rfl, rfl, h1, h2, hb⟩ := hrel
    rename_i wr _
    by_cases hlt : i < j
    · have d1 : decide ((i : Int) < (j : Int)) = true := decide_eq_true (by omega)
      have hH : (i + j) / 2 < m.length := by omega
      obtain ⟨g, off, rfl, hl, hc⟩ := rdS Hh.out (by omega)
      have c2 : wr.cell? ⟨g, off + (i + j) / 2, none⟩ = some (encStr (m[(i + j) / 2]'hH)) := (hb.out.cell (p := ⟨g, _, none⟩) hl).trans (hc _ hH)
      have K1 := Lib.hid (fun w' => K.out (m[(i + j) / 2]'hH) x w')
      rcases hd : decide ((m[(i + j) / 2]'hH) < x) with _ | _
      · have hn : ¬ (m[(i + j) / 2]'hH) < x := of_decide_eq_false hd
        rw [hd] at K1
        have h2' : Hid (∀ k (hk : k < m.length), (i + j) / 2 ≤ k → ¬ m[k] < x) := Lib.hid (fun k hk hle hlt' => hn (Hs.out _ _ hH hk hle hlt'))
        clear hd hn hc h2
        generalize m[(i + j) / 2]'hH = y at *
        go_wp2_with (go_at_call 85; refine (K1.out _).mono ?_; rintro e w2 ⟨rfl, rfl⟩)
        go_roundw
        case rel => exact ⟨i, (i + j) / 2, by omega, by omega, rfl, by go_num, h1, h2', hb⟩
        case measure => simp [intOf]; omega
      · have hn : (m[(i + j) / 2]'hH) < x := of_decide_eq_true hd
        rw [hd] at K1
        have h1' : Hid (∀ k (hk : k < m.length), k < (i + j) / 2 + 1 → m[k] < x) := Lib.hid (fun k hk hle => Hs.out _ _ hk hH (by omega) hn)
        clear hd hn hc h1
        generalize m[(i + j) / 2]'hH = y at *
        go_wp2_with (go_at_call 85; refine (K1.out _).mono ?_; rintro e w2 ⟨rfl, rfl⟩)
        go_roundw
        case rel => exact ⟨(i + j) / 2 + 1, j, by omega, by omega, by go_num, rfl, h1', h2, hb⟩
        case measure => simp [intOf]; omega
    · obtain rfl : i = j := by omega
      have d1 : decide ((i : Int) < (i : Int)) = false := decide_eq_false (by omega)
      have hui : u = i := Hu.out.symm.trans (He.out i hj h1.out h2.out)
      have ha := Ha.out
      simp only [Hu.out, hui] at ha
      subst hui
      by_cases hl : u < m.length
      · have d2 : decide ((u : Int) < (m.length : Int)) = true := decide_eq_true (by omega)
        obtain ⟨g, off, rfl, hgl, hc⟩ := rdS Hh.out (by omega)
        have c2 : wr.cell? ⟨g, off + u, none⟩ = some (encStr (m[u]'hl)) := (hb.out.cell (p := ⟨g, _, none⟩) hgl).trans (hc _ hl)
        have hreq : r = (m[u]'hl == x) := by
          rw [← Hr.out, Bool.eq_iff_iff, decide_eq_true_iff, ← ha, beq_iff_eq]
          exact ⟨fun ⟨_, h⟩ => h, fun h => ⟨hl, h⟩⟩
        clear ha Hr Hu Ha He
        rcases hq : (m[u]'hl == x) with _ | _
        · rw [hq] at hreq
          subst hreq
          generalize m[u]'hl = y at *
          go_wp2_with (go_at_call 120; refine (K2.out _ _).mono ?_; rintro e w2 ⟨rfl, rfl⟩)
          go_ret2
          exact ⟨rfl, hb.out⟩
        · rw [hq] at hreq
          subst hreq
          generalize m[u]'hl = y at *
          go_wp2_with fail
          go_ret2
          exact ⟨rfl, hb.out⟩
      · have d2 : decide ((u : Int) < (m.length : Int)) = false := decide_eq_false (by omega)
        have hreq : r = false := by
          rw [← Hr.out, decide_eq_false_iff_not, ← ha]
          rintro ⟨h, _⟩
          exact hl h
        subst hreq
        clear ha Hr Hu Ha He
        go_wp2_with fail
        go_ret2
        exact ⟨rfl, hb.out⟩
end Go.Proofs.Ytdmmkjijgoiecaa.po

/-
  pool: what two texts share; a pool in memory: its length, its texts, their numbers.
-/
set_option linter.all false
namespace Go.Proofs.Ytdmmkjijgoiecaa.po
open Go.RowKit Go.Sort Go.Proofs.Ytdmmkjijgoiecaa.mem

theorem eq_u8 (a b : UInt8) : (((a.toNat : Nat) : Int) == ((b.toNat : Nat) : Int)) = decide (a = b) := by
  rw [Bool.eq_iff_iff, beq_iff_eq, decide_eq_true_iff]
  constructor
  · intro h
    exact UInt8.toNat_inj.1 (by omega)
  · intro h; rw [h]

/-- a pool in memory -/
structure Pl (w : World) (b : Nat) (A : Option Addr) (cap : Nat) (m : List (List UInt8)) : Prop where
  box : Box w b 63 #[.slice A m.length cap]
  rd : Rd w A (m.map encStr)

theorem Pl.below {w w' : World} {b : Nat} {A : Option Addr} {cap : Nat} {m : List (List UInt8)} (h : Pl w b A cap m) (hb : Below w.heap.size w w') : Pl w' b A cap m :=
  ⟨h.box.kept (Fr.of_below hb []) (by simp), h.rd.below hb⟩

set_option maxRecDepth 100000 in
theorem plen_any (w : World) (b : Nat) (A : Option Addr) (cap : Nat) (m : List (List UInt8)) (h : Pl w b A cap m) :
    Calls Try.prog 74 #[.pointer (some ⟨b, 0, none⟩)] w fun e w' => e = .returned (.int .i64 m.length) ∧ w = w' := by
  have c0 : w.cell? ⟨b, 0, none⟩ = some (.slice A m.length cap) := h.box.cell 0
  clear h
  go_enter Try.func74, Try.ntmps74
  go_wp2_with fail
  go_ret
  exact ⟨rfl, rfl⟩

set_option maxRecDepth 100000 in
theorem plen_none (w : World) : Calls Try.prog 74 #[.pointer none] w fun e w' => e = .returned (.int .i64 0) ∧ w = w' := by
  go_enter Try.func74, Try.ntmps74
  go_wp2_with fail
  go_ret
  exact ⟨rfl, rfl⟩

set_option maxRecDepth 100000 in
theorem pnum_none (w : World) (x : List UInt8) : Calls Try.prog 117 #[.pointer none, encStr x] w fun e w' => e = .returned (.tuple #[.int .i64 0, .bool false]) ∧ w = w' := by
  go_enter Try.func117, Try.ntmps117
  go_wp2_with fail
  go_ret2
  exact ⟨rfl, rfl⟩

/-- what Number answers -/
def pnV (m : List (List UInt8)) (x : List UInt8) : Value := .tuple #[.int .i64 (if x ∈ m then (m.idxOf x : Nat) else 0 : Nat), .bool (decide (x ∈ m))]

set_option maxRecDepth 100000 in
theorem pnum_any (w : World) (b : Nat) (A : Option Addr) (cap : Nat) (m : List (List UInt8)) (x : List UInt8) (h : Pl w b A cap m) (hp : m.Pairwise (fun a b => a < b)) (hm : m.length ≤ 1000000) :
    Calls Try.prog 117 #[.pointer (some ⟨b, 0, none⟩), encStr x] w fun e w' => e = .returned (pnV m x) ∧ Below w.heap.size w w' := by
  have c0 : w.cell? ⟨b, 0, none⟩ = some (.slice A m.length cap) := h.box.cell 0
  have K := Lib.hid (search_any w A cap m x h.rd hp hm)
  by_cases hx : x ∈ m
  · have hv : Hid (pnV m x = .tuple #[.int .i64 (upS m x : Nat), .bool true]) := Lib.hid (by unfold pnV; rw [if_pos hx, decide_eq_true hx, up_idx m x hp hx])
    rw [hv.out]
    rw [decide_eq_true hx] at K
    clear hv h hp hx hm
    generalize upS m x = u at *
    go_enter Try.func117, Try.ntmps117
    go_wp2_with fail
    refine K.out.mono ?_
    rintro e w1 ⟨rfl, b1⟩
    have B1 := Lib.hid b1
    clear b1
    go_wp2_with fail
    go_ret2
    exact ⟨rfl, B1.out⟩
  · have hv : Hid (pnV m x = .tuple #[.int .i64 0, .bool false]) := Lib.hid (by unfold pnV; rw [if_neg hx, decide_eq_false hx]; rfl)
    rw [hv.out]
    rw [decide_eq_false hx] at K
    clear hv h hp hx hm
    generalize upS m x = u at *
    go_enter Try.func117, Try.ntmps117
    go_wp2_with fail
    refine K.out.mono ?_
    rintro e w1 ⟨rfl, b1⟩
    have B1 := Lib.hid b1
    clear b1
    go_wp2_with fail
    go_ret2
    exact ⟨rfl, B1.out⟩

set_option maxRecDepth 100000 in
theorem pat_in (w : World) (b : Nat) (A : Option Addr) (cap : Nat) (m : List (List UInt8)) (k : Nat) (h : Pl w b A cap m) (hk : k < m.length) (hm : m.length ≤ 9223372036854775807) :
    Calls Try.prog 58 #[.pointer (some ⟨b, 0, none⟩), .int .i64 k] w fun e w' => e = .returned (.tuple #[encStr m[k], .bool true]) ∧ w = w' := by
  have c0 : w.cell? ⟨b, 0, none⟩ = some (.slice A m.length cap) := h.box.cell 0
  have K := Lib.hid (plen_any w b A cap m h)
  obtain ⟨g, off, rfl, hl, hc⟩ := rdS h.rd (by omega)
  have c1 := hc k hk
  clear hc h
  generalize m[k] = y at *
  have d1 : decide ((k : Int) < 0) = false := decide_eq_false (by omega)
  have d2 : decide ((m.length : Int) ≤ (k : Int)) = false := decide_eq_false (by omega)
  go_enter Try.func58, Try.ntmps58
  go_wp2_with (go_at_call 74; refine K.out.mono ?_; rintro e w1 ⟨rfl, rfl⟩)
  go_ret2
  exact ⟨rfl, rfl⟩

set_option maxRecDepth 100000 in
theorem pat_out (w : World) (b : Nat) (A : Option Addr) (cap : Nat) (m : List (List UInt8)) (k : Int) (h : Pl w b A cap m) (hk : k < 0 ∨ m.length ≤ k) :
    Calls Try.prog 58 #[.pointer (some ⟨b, 0, none⟩), .int .i64 k] w fun e w' => e = .returned (.tuple #[.string ⟨#[]⟩, .bool false]) ∧ w = w' := by
  have K := Lib.hid (plen_any w b A cap m h)
  clear h
  by_cases h0 : k < 0
  · have d1 : decide (k < 0) = true := decide_eq_true h0
    go_enter Try.func58, Try.ntmps58
    go_wp2_with fail
    go_ret2
    exact ⟨rfl, rfl⟩
  · have d1 : decide (k < 0) = false := decide_eq_false h0
    have d2 : decide ((m.length : Int) ≤ k) = true := decide_eq_true (by omega)
    go_enter Try.func58, Try.ntmps58
    go_wp2_with (go_at_call 74; refine K.out.mono ?_; rintro e w1 ⟨rfl, rfl⟩)
    go_ret2
    exact ⟨rfl, rfl⟩
end Go.Proofs.Ytdmmkjijgoiecaa.po
