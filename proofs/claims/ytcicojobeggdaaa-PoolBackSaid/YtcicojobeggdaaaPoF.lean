/-
  pool: great; Of; whether a pool has just these texts; works.
-/
import Derived.Test.YtcicojobeggdaaaPoD
import Derived.Test.YtcicojobeggdaaaPoE
import Derived.Test.YtcicojobeggdaaaTx
namespace Go.Proofs.Ytcicojobeggdaaa.po
open Go.RowKit Go.Sort Go.Proofs.Ytcicojobeggdaaa.mem Go.Proofs.Ytcicojobeggdaaa.vr Go.Proofs.Ytcicojobeggdaaa.inn

def GrPost (w : World) (l : List (List UInt8)) (e : Ending) (w' : World) : Prop := ∃ r, e = .returned (.bool r) ∧ w = w' ∧ (r = false → l.length ≤ 100 ∧ ∀ x ∈ l, x.length ≤ 20000)

set_option maxRecDepth 100000 in
theorem great_p (w : World) (A : Option Addr) (cap : Nat) (l : List (List UInt8)) (h : Rd w A (l.map encStr)) (hm : l.length ≤ 9223372036854775807) (hr : ∀ x ∈ l, x.length ≤ 140737488355328) :
    Calls Try.prog 5 #[.slice A l.length cap] w (GrPost w l) := by
  have Hh := Lib.hid h
  have Hr := Lib.hid hr
  clear h hr
  go_enter Try.func5, Try.ntmps5
  go_wp2_with fail
  go_loopw [3, 4] (fun n i wr => ∃ (k m : Nat), k ≤ l.length ∧ k ≤ 100 ∧ m ≤ 20000 ∧ i = .int .i64 k ∧ n = .int .i64 m ∧ Hid (∀ x ∈ l.take k, x.length ≤ 20000) ∧ w = wr) (fun _ i _ => l.length - (intOf i).toNat)
  case atStart => exact ⟨0, 0, by omega, by omega, by omega, rfl, rfl, Lib.hid (by simp), rfl⟩
  case round =>
    obtain ⟨k, m, hk, hk3, hm2, rfl, rfl, hs, rfl⟩ := hrel
    by_cases hkl : k < l.length
    · have e1 : decide ((k : Int) < (l.length : Int)) = true := decide_eq_true (by omega)
      obtain ⟨b, off, rfl, hlt, hcell⟩ := rdS Hh.out (by omega)
      have c2 := hcell k hkl
      have hx := Hr.out _ (List.getElem_mem hkl)
      have hs2 : Hid (l[k].length ≤ 20000 → ∀ x ∈ l.take (k + 1), x.length ≤ 20000) := Lib.hid (fun h x hx => by
        rw [List.take_succ_eq_append_getElem hkl, List.mem_append, List.mem_singleton] at hx
        rcases hx with hx | rfl
        · exact hs.out x hx
        · exact h)
      clear hcell hs
      generalize l[k] = p at *
      by_cases h3 : 100 ≤ k
      · have d1 : decide ((100 : Int) ≤ (k : Int)) = true := decide_eq_true (by omega)
        go_wp2_with fail
        go_ret
        exact ⟨true, rfl, rfl, by simp⟩
      · have d1 : decide ((100 : Int) ≤ (k : Int)) = false := decide_eq_false (by omega)
        by_cases hd : 20000 < m + p.length
        · have d2 : decide ((20000 : Int) < (m : Int) + (p.length : Int)) = true := decide_eq_true (by omega)
          go_wp2_with fail
          go_ret
          exact ⟨true, rfl, rfl, by simp⟩
        · have d2 : decide ((20000 : Int) < (m : Int) + (p.length : Int)) = false := decide_eq_false (by omega)
          go_wp2_with fail
          go_roundw
          case rel => exact ⟨k + 1, m + p.length, by omega, by omega, by omega, by go_num, by go_num, Lib.hid (hs2.out (by omega)), trivial⟩
          case measure => simp [intOf]; omega
    · obtain rfl : k = l.length := by omega
      have e1 : decide ((l.length : Int) < (l.length : Int)) = false := decide_eq_false (by omega)
      go_wp2_with fail
      go_ret
      exact ⟨false, rfl, rfl, fun _ => ⟨hk3, by have := hs.out; rwa [List.take_length] at this⟩⟩

def OfPost (w : World) (m : List (List UInt8)) (e : Ending) (w' : World) : Prop := ∃ b B cap, e = .returned (.pointer (some ⟨b, 0, none⟩)) ∧ Pl w' b B cap m ∧ Below w.heap.size w w'

theorem of_end {w w1 : World} {ss : List (List UInt8)} {B : Option Addr} {cap : Nat} (b1 : Below w.heap.size w w1) (r1 : Rd w1 B ((rsS ss).map encStr)) : OfPost w (rsS ss) (.returned (.pointer (some ⟨w1.heap.size, 0, none⟩))) (w1.alloc (.cells #[.slice B (rsS ss).length cap] 51)) :=
  ⟨_, B, cap, rfl, ⟨Box.new w1 _ _, r1.alloc _⟩, b1.alloc b1.size _⟩

set_option maxRecDepth 100000 in
theorem pof_any (w : World) (A : Option Addr) (c : Nat) (ss : List (List UInt8)) (h : Rd w A (ss.map encStr)) (hm : ss.length ≤ 1000) :
    Calls Try.prog 6 #[.slice A ss.length c] w (OfPost w (rsS ss)) := by
  have K := Lib.hid (sorted_any w A c ss h hm)
  have E := Lib.hid (fun (w1 : World) B cap (b1 : Below w.heap.size w w1) (r1 : Rd w1 B ((rsS ss).map encStr)) => of_end (cap := cap) b1 r1)
  clear h
  go_enter Try.func6, Try.ntmps6
  go_wp2_with fail
  refine K.out.mono ?_
  rintro e w1 ⟨B, cap, rfl, b1, r1⟩
  have E1 := Lib.hid (E.out w1 B cap b1 r1)
  clear K b1 r1 E
  go_wp2_with fail
  go_ret
  exact E1.out

set_option maxRecDepth 100000 in
theorem rof_any (w : World) (A : Option Addr) (cap : Nat) (l : List (List UInt8)) (h : Rd w A (l.map encStr)) (hm : l.length ≤ 1000) :
    Calls Try.prog 7 #[.slice A l.length cap] w (IPost w (rsS l)) := by
  have K := Lib.hid (rsorted_any w A cap l h hm)
  clear h
  go_enter Try.func7, Try.ntmps7
  go_wp2_with fail
  refine K.out.mono ?_
  rintro e w1 ⟨B, c1, rfl, s1, b1⟩
  have S1 := Lib.hid s1
  have B1 := Lib.hid b1
  clear s1 b1
  go_wp2_with fail
  go_ret
  exact ⟨B, c1, rfl, S1.out, B1.out⟩

theorem idx_at : ∀ (m : List (List UInt8)) (k : Nat) (hk : k < m.length), m.Pairwise (fun a b => a < b) → m.idxOf m[k] = k
  | [], k, hk, _ => by simp at hk
  | y :: m, 0, hk, _ => by simp
  | y :: m, k + 1, hk, hp => by
    have hp' := List.pairwise_cons.1 hp
    have hk' : k < m.length := by simpa using hk
    have hne : y ≠ m[k] := fun e => by
      have h := hp'.1 m[k] (List.getElem_mem hk')
      rw [← e] at h
      exact List.lt_irrefl y h
    have ih := idx_at m k hk' hp'.2
    rw [List.getElem_cons_succ, List.idxOf_cons, show (y == m[k]) = false by simpa using hne]
    simpa using ih

theorem pnV_at (m : List (List UInt8)) (k : Nat) (hk : k < m.length) (hp : m.Pairwise (fun a b => a < b)) : pnV m m[k] = .tuple #[.int .i64 (k : Nat), .bool true] := by
  unfold pnV
  rw [if_pos (List.getElem_mem hk), decide_eq_true (List.getElem_mem hk), idx_at m k hk hp]

set_option maxRecDepth 100000 in
theorem same_p (w : World) (b : Nat) (A A' : Option Addr) (cap cap' : Nat) (m : List (List UInt8)) (h : Pl w b A cap m) (hl : Rd w A' (m.map encStr)) (hp : m.Pairwise (fun a b => a < b)) (hm : m.length ≤ 1000) :
    Calls Try.prog 12 #[.pointer (some ⟨b, 0, none⟩), .slice A' m.length cap'] w fun e w' => e = .returned (.bool true) ∧ Below w.heap.size w w' := by
  have HP := Lib.hid h
  have HL := Lib.hid hl
  have KL := Lib.hid (fun w' (hb : Below w.heap.size w w') => plen_any w' b A cap m (h.below hb))
  have KA := Lib.hid (fun w' k (hb : Below w.heap.size w w') (hk : k < m.length) => pat_in w' b A cap m k (h.below hb) hk (by omega))
  have KO := Lib.hid (fun w' k (hb : Below w.heap.size w w') (hk : k < 0 ∨ (m.length : Int) ≤ k) => pat_out w' b A cap m k (h.below hb) hk)
  have KN := Lib.hid (fun w' x (hb : Below w.heap.size w w') => pnum_any w' b A cap m x (h.below hb) hp hm)
  have PV := Lib.hid (fun k hk => pnV_at m k hk hp)
  clear h hl hp
  have hml : ((m.length : Int) == (m.length : Int)) = true := by simp
  go_enter Try.func12, Try.ntmps12
  go_wp2_with (go_at_call 14; refine (KL.out _ (Below.refl _ _)).mono ?_; rintro e w1 ⟨rfl, rfl⟩)
  go_loopw [5] (fun i wr => ∃ (k : Nat), k ≤ m.length ∧ i = .int .i64 k ∧ Hid (Below w.heap.size w wr)) (fun i _ => m.length - (intOf i).toNat)
  case atStart => exact ⟨0, by omega, rfl, Lib.hid (Below.refl _ _)⟩
  case round =>
    obtain ⟨k, hk, rfl, hb⟩ := hrel
    rename_i wr _
    by_cases hkl : k < m.length
    · have e1 : decide ((k : Int) < (m.length : Int)) = true := decide_eq_true (by omega)
      have K1 := Lib.hid (KA.out wr k hb.out hkl)
      have K2 := Lib.hid (KN.out wr m[k] hb.out)
      rw [PV.out k hkl] at K2
      obtain ⟨g, off, rfl, hgl, hc⟩ := rdS (HL.out.below hb.out) (by omega)
      have c2 := hc k hkl
      have hcc : Hid (∀ w', Below wr.heap.size wr w' → w'.cell? ⟨g, off + k, none⟩ = some (encStr m[k])) := Lib.hid (fun w' hb' => (hb'.cell (p := ⟨g, _, none⟩) hgl).trans (hc k hkl))
      clear hc
      generalize m[k] = x at *
      have d1 : (x == x) = true := by simp
      have d2 : ((k : Int) == (k : Int)) = true := by simp
      go_wp2_with (go_at_call 25; refine K1.out.mono ?_; rintro e w2 ⟨rfl, rfl⟩)
      refine K2.out.mono ?_
      rintro e w3 ⟨rfl, b3⟩
      have B3 := Lib.hid (hb.out.trans (b3.mono hb.out.size))
      clear c2
      have c2 := hcc.out _ b3
      clear b3
      go_wp2_with fail
      go_roundw
      case rel => exact ⟨k + 1, by omega, by go_num, B3⟩
      case measure => simp [intOf]; omega
    · obtain rfl : k = m.length := by omega
      have e1 : decide ((m.length : Int) < (m.length : Int)) = false := decide_eq_false (by omega)
      have K1 := Lib.hid (KO.out wr m.length hb.out (Or.inr (by omega)))
      have K2 := Lib.hid (KO.out wr (-1) hb.out (Or.inl (by omega)))
      go_wp2_with fail
      refine K1.out.mono ?_
      rintro e w2 ⟨rfl, rfl⟩
      go_wp2_with fail
      refine K2.out.mono ?_
      rintro e w2 ⟨rfl, rfl⟩
      go_wp2_with fail
      go_ret
      exact ⟨rfl, hb.out⟩
end Go.Proofs.Ytcicojobeggdaaa.po
