/-
  tarjan: rows compared: the walks.
-/
import Derived.Test.YtpdidgacmikllaaTj3
import Derived.Lib.QuietBelow
import Derived.Deep.QuietTactic
import Derived.BigQuiet
namespace Go.Proofs.Ytpdidgacmikllaa.tj
open Go.RowKit Go.Proofs.Ytpdidgacmikllaa.mem

theorem rd_cells {w : World} {A : Option Addr} {l : List Nat} (h : Rd w A (natI l)) (hz : 0 < l.length) : ∃ g o, A = some ⟨g, o, none⟩ ∧ g < w.heap.size ∧ ∀ j (hj : j < l.length), w.cell? ⟨g, o + j, none⟩ = some (.int .i64 ((l[j] : Nat) : Int)) := by
  obtain ⟨g, o, e, hl, hc⟩ := h (by rw [natI_len]; exact hz)
  exact ⟨g, o, e, hl, fun j hj => by rw [hc j (by rw [natI_len]; exact hj)]; simp [natI]⟩

def SaPost (b : Bool) (w : World) (e : Ending) (W : World) : Prop := e = .returned (.bool b) ∧ Below w.heap.size w W

set_option maxRecDepth 100000 in
theorem sameI_nil (w : World) (A B : Option Addr) (c d : Nat) : Calls Try.prog 16 #[.slice A 0 c, .slice B 0 d] w (SaPost true w) := by
  go_enter Try.func16, Try.ntmps16
  go_wp2_with fail
  go_loopw [5] (fun i wr => i = .int .i64 0 ∧ w = wr) (fun _ _ => 0)
  case atStart => exact ⟨rfl, rfl⟩
  case round =>
    obtain ⟨rfl, rfl⟩ := hrel
    go_wp2_with fail
    go_ret
    exact ⟨rfl, Below.refl _ _⟩

theorem take_eq_succ {α : Type} {l m : List α} {k : Nat} (hl : k < l.length) (hm : k < m.length) (h : l.take k = m.take k) : l.take (k + 1) = m.take (k + 1) ↔ l[k] = m[k] := by
  rw [List.take_succ_eq_append_getElem hl, List.take_succ_eq_append_getElem hm, h]
  constructor
  · intro e
    have := List.append_cancel_left e
    exact (List.cons.inj this).1
  · intro e
    rw [e]

set_option maxRecDepth 100000 in
theorem sameI_any (w : World) (A B : Option Addr) (c d : Nat) (l m : List Nat) (hA : Rd w A (natI l)) (hB : Rd w B (natI m)) (hll : l.length ≤ 100000) (hmm : m.length ≤ 100000) :
    Calls Try.prog 16 #[.slice A l.length c, .slice B m.length d] w (SaPost (decide (l = m)) w) := by
  by_cases hlm : l.length = m.length
  rotate_left
  · have d0 : (((l.length : Nat) : Int) != (m.length : Int)) = true := by simp; omega
    have hne : Hid (decide (l = m) = false) := Lib.hid (decide_eq_false (fun e => hlm (by rw [e])))
    clear hA hB hlm
    rw [hne.out]
    go_enter Try.func16, Try.ntmps16
    go_wp2_with fail
    go_ret
    exact ⟨rfl, Below.refl _ _⟩
  rcases Nat.eq_zero_or_pos l.length with hz | hz
  · obtain rfl := List.length_eq_zero_iff.1 hz
    obtain rfl := List.length_eq_zero_iff.1 (hlm.symm.trans hz)
    exact sameI_nil w A B c d
  obtain ⟨g1, o1, rfl, hl1, h1⟩ := rd_cells hA hz
  obtain ⟨g2, o2, rfl, hl2, h2⟩ := rd_cells hB (by omega)
  have H1 := Lib.hid h1
  have H2 := Lib.hid h2
  have L1 := Lib.hid hl1
  have L2 := Lib.hid hl2
  obtain ⟨n, hn⟩ : ∃ n, Hid (l.length = n) := ⟨_, Lib.hid rfl⟩
  have hm : Hid (m.length = n) := Lib.hid (by rw [← hlm]; exact hn.out)
  rw [hn.out, hm.out]
  have hnb : n ≤ 100000 := by rw [← hn.out]; exact hll
  obtain ⟨r, hr⟩ : ∃ r, Hid (decide (l = m) = r) := ⟨_, Lib.hid rfl⟩
  rw [hr.out]
  clear h1 h2 hA hB hl1 hl2 hlm hz hll hmm
  have d0 : (((n : Nat) : Int) != (n : Int)) = false := by simp
  go_enter Try.func16, Try.ntmps16
  go_wp2_with fail
  go_loopw [5] (fun i wr => ∃ k : Nat, k ≤ n ∧ i = .int .i64 k ∧ Hid (Below w.heap.size w wr ∧ l.take k = m.take k)) (fun i _ => n - (intOf i).toNat)
  case atStart => exact ⟨0, by omega, rfl, Lib.hid ⟨Below.refl _ _, rfl⟩⟩
  case round =>
    obtain ⟨k, hk, rfl, hb⟩ := hrel
    rename World => wr
    by_cases hkl : k < n
    · have e1 : decide ((k : Int) < (n : Int)) = true := decide_eq_true (by omega)
      have k1 : k < l.length := by rw [hn.out]; exact hkl
      have k2 : k < m.length := by rw [hm.out]; exact hkl
      have ck : wr.cell? ⟨g1, o1 + k, none⟩ = some (.int .i64 ((l[k] : Nat) : Int)) := (hb.out.1.cell (p := ⟨g1, o1 + k, none⟩) L1.out).trans (H1.out k k1)
      have cm : wr.cell? ⟨g2, o2 + k, none⟩ = some (.int .i64 ((m[k] : Nat) : Int)) := (hb.out.1.cell (p := ⟨g2, o2 + k, none⟩) L2.out).trans (H2.out k k2)
      have hs := Lib.hid (take_eq_succ k1 k2 hb.out.2)
      generalize l[k] = y at *
      generalize m[k] = z at *
      clear k1 k2
      by_cases hyz : y = z
      · have e2 : (((y : Nat) : Int) != (z : Int)) = false := by subst hyz; simp
        have hb2 := Lib.hid (And.intro hb.out.1.drew (hs.out.2 hyz))
        clear hb hyz hs
        go_wp2_with fail
        go_region
        go_wp2_with fail
        go_roundw
        case rel => exact ⟨k + 1, by omega, by go_num, hb2⟩
        case measure => simp [intOf]; omega
      · have e2 : (((y : Nat) : Int) != (z : Int)) = true := by simp; omega
        have hf : Hid (SaPost r w (.returned (.bool false)) wr.drew) := Lib.hid ⟨by rw [← hr.out, decide_eq_false (fun e => hyz (hs.out.1 (by rw [e])))], hb.out.1.drew⟩
        clear hb hyz hs
        go_wp2_with fail
        go_region
        go_wp2_with fail
        go_ret
        exact hf.out
    · obtain rfl : k = n := by omega
      have e1 : decide ((k : Int) < (k : Int)) = false := decide_eq_false (by omega)
      have hf : Hid (SaPost r w (.returned (.bool true)) wr) := Lib.hid ⟨by
        have h := hb.out.2
        rw [List.take_of_length_le (by rw [hn.out]; exact Nat.le_refl _), List.take_of_length_le (by rw [hm.out]; exact Nat.le_refl _)] at h
        rw [← hr.out, decide_eq_true h], hb.out.1⟩
      clear hb
      go_wp2_with fail
      go_ret
      exact hf.out

/-- rows that can be read -/
structure RR (w : World) (A : Option Addr) (rows : List Row) : Prop where
  hd : Rd w A (rows.map hdr)
  rd : ∀ r ∈ rows, Rd w r.A (natI r.xs)
  le : ∀ r ∈ rows, r.xs.length ≤ 1000

theorem RR.below {w w' : World} {A : Option Addr} {rows : List Row} (h : RR w A rows) (hb : Below w.heap.size w w') : RR w' A rows := ⟨h.hd.below hb, fun r hr => (h.rd r hr).below hb, h.le⟩

theorem RR.at_ {w : World} {A : Option Addr} {rows : List Row} (h : RR w A rows) (hz : 0 < rows.length) : ∃ g o, A = some ⟨g, o, none⟩ ∧ g < w.heap.size ∧ ∀ j (hj : j < rows.length), w.cell? ⟨g, o + j, none⟩ = some (.slice rows[j].A rows[j].xs.length rows[j].cap) := by
  obtain ⟨g, o, e, hl, hc⟩ := h.hd (by rw [List.length_map]; exact hz)
  exact ⟨g, o, e, hl, fun j hj => by rw [hc j (by rw [List.length_map]; exact hj), List.getElem_map]; rfl⟩

set_option maxRecDepth 100000 in
theorem same_nil (w : World) (A B : Option Addr) (c d : Nat) : Calls Try.prog 9 #[.slice A 0 c, .slice B 0 d] w (SaPost true w) := by
  go_enter Try.func9, Try.ntmps9
  go_wp2_with fail
  go_loopw [5] (fun i wr => i = .int .i64 0 ∧ w = wr) (fun _ _ => 0)
  case atStart => exact ⟨rfl, rfl⟩
  case round =>
    obtain ⟨rfl, rfl⟩ := hrel
    go_wp2_with fail
    go_ret
    exact ⟨rfl, Below.refl _ _⟩

theorem regrown_same {b : Bool} {wr : World} {f : Nat} {args : Array Value} (h : ∀ W, Below wr.heap.size wr W → Calls Try.prog f args W (SaPost b W)) (d : Nat) (os : Array Obj) : Calls Try.prog f args (Go.Sort.grow (redrawn wr d) os) fun e w'' => e = .returned (.bool b) ∧ ∃ p : Regrown, w'' = Go.Sort.grow (redrawn wr p.d) p.os :=
  Calls.regrown_of (h _ (below_regrown wr d os))

set_option maxRecDepth 100000 in
theorem same_any (w : World) (A B : Option Addr) (c d : Nat) (l m : List Row) (hA : RR w A l) (hB : RR w B m) (hll : l.length ≤ 100000) (hmm : m.length ≤ 100000) :
    Calls Try.prog 9 #[.slice A l.length c, .slice B m.length d] w (SaPost (decide (l.map (·.xs) = m.map (·.xs))) w) := by
  by_cases hlm : l.length = m.length
  rotate_left
  · have d0 : (((l.length : Nat) : Int) != (m.length : Int)) = true := by simp; omega
    have hne : Hid (decide (l.map (·.xs) = m.map (·.xs)) = false) := Lib.hid (decide_eq_false (fun e => hlm (by have := congrArg List.length e; simpa using this)))
    clear hA hB hlm
    rw [hne.out]
    go_enter Try.func9, Try.ntmps9
    go_wp2_with fail
    go_ret
    exact ⟨rfl, Below.refl _ _⟩
  rcases Nat.eq_zero_or_pos l.length with hz | hz
  · obtain rfl := List.length_eq_zero_iff.1 hz
    obtain rfl := List.length_eq_zero_iff.1 (hlm.symm.trans hz)
    exact same_nil w A B c d
  obtain ⟨g1, o1, rfl, hl1, h1⟩ := hA.at_ hz
  obtain ⟨g2, o2, rfl, hl2, h2⟩ := hB.at_ (by omega)
  have H1 := Lib.hid h1
  have H2 := Lib.hid h2
  have HA := Lib.hid hA
  have HB := Lib.hid hB
  have L1 := Lib.hid hl1
  have L2 := Lib.hid hl2
  obtain ⟨n, hn⟩ : ∃ n, Hid (l.length = n) := ⟨_, Lib.hid rfl⟩
  have hm : Hid (m.length = n) := Lib.hid (by rw [← hlm]; exact hn.out)
  rw [hn.out, hm.out]
  have hnb : n ≤ 100000 := by rw [← hn.out]; exact hll
  obtain ⟨r, hr⟩ : ∃ r, Hid (decide (l.map (·.xs) = m.map (·.xs)) = r) := ⟨_, Lib.hid rfl⟩
  rw [hr.out]
  clear h1 h2 hA hB hl1 hl2 hlm hz hll hmm
  have d0 : (((n : Nat) : Int) != (n : Int)) = false := by simp
  go_enter Try.func9, Try.ntmps9
  go_wp2_with fail
  go_loopw [5] (fun i wr => ∃ k : Nat, k ≤ n ∧ i = .int .i64 k ∧ Hid (Below w.heap.size w wr ∧ (l.map (·.xs)).take k = (m.map (·.xs)).take k)) (fun i _ => n - (intOf i).toNat)
  case atStart => exact ⟨0, by omega, rfl, Lib.hid ⟨Below.refl _ _, rfl⟩⟩
  case round =>
    obtain ⟨k, hk, rfl, hb⟩ := hrel
    rename World => wr
    by_cases hkl : k < n
    · have e1 : decide ((k : Int) < (n : Int)) = true := decide_eq_true (by omega)
      have k1 : k < l.length := by rw [hn.out]; exact hkl
      have k2 : k < m.length := by rw [hm.out]; exact hkl
      have ck := cell_regrown ((hb.out.1.cell (p := ⟨g1, o1 + k, none⟩) L1.out).trans (H1.out k k1))
      have cm := cell_regrown ((hb.out.1.cell (p := ⟨g2, o2 + k, none⟩) L2.out).trans (H2.out k k2))
      have hs := take_eq_succ (l := l.map (·.xs)) (m := m.map (·.xs)) (by rw [List.length_map]; exact k1) (by rw [List.length_map]; exact k2) hb.out.2
      rw [List.getElem_map, List.getElem_map] at hs
      have hs := Lib.hid hs
      have KS0 : ∀ W, Below wr.heap.size wr W → Calls Try.prog 16 #[.slice l[k].A l[k].xs.length l[k].cap, .slice m[k].A m[k].xs.length m[k].cap] W (SaPost (decide (l[k].xs = m[k].xs)) W) := fun W hW => by
        have hbW := hb.out.1.trans (hW.mono hb.out.1.size)
        exact sameI_any W l[k].A m[k].A l[k].cap m[k].cap l[k].xs m[k].xs ((HA.out.rd _ (List.getElem_mem k1)).below hbW) ((HB.out.rd _ (List.getElem_mem k2)).below hbW) (by have := HA.out.le _ (List.getElem_mem k1); omega) (by have := HB.out.le _ (List.getElem_mem k2); omega)
      have KS := Lib.hid (regrown_same KS0)
      clear KS0
      generalize l[k] = y at *
      generalize m[k] = z at *
      clear k1 k2
      by_cases hyz : y.xs = z.xs
      · have KS : Hid (∀ d os, Calls Try.prog 16 #[.slice y.A y.xs.length y.cap, .slice z.A z.xs.length z.cap] (Go.Sort.grow (redrawn wr d) os) fun e w'' => e = .returned (.bool true) ∧ ∃ p : Regrown, w'' = Go.Sort.grow (redrawn wr p.d) p.os) := by rw [decide_eq_true hyz] at KS; exact KS
        have hb2 := Lib.hid (fun d os => And.intro (hb.out.1.trans ((below_regrown wr d os).mono hb.out.1.size)) (hs.out.2 hyz))
        clear hb hyz hs
        go_wp2_with fail
        refine wp_region_quiet_below (by kernel_rfl) (by kernel_rfl) ?_
        repeat (quiet_step (exact KS.out _ _))
        refine wpQuiet_nil ?_
        intro _ hw'
        obtain ⟨⟨dq, osq⟩, hw''⟩ := hw'
        subst hw''
        go_wp2_with fail
        go_roundw
        case rel => exact ⟨k + 1, by omega, by go_num, Lib.hid (hb2.out _ _)⟩
        case measure => simp [intOf]; omega
      · have KS : Hid (∀ d os, Calls Try.prog 16 #[.slice y.A y.xs.length y.cap, .slice z.A z.xs.length z.cap] (Go.Sort.grow (redrawn wr d) os) fun e w'' => e = .returned (.bool false) ∧ ∃ p : Regrown, w'' = Go.Sort.grow (redrawn wr p.d) p.os) := by rw [decide_eq_false hyz] at KS; exact KS
        have hf : Hid (∀ d os, SaPost r w (.returned (.bool false)) (Go.Sort.grow (redrawn wr d) os)) := Lib.hid (fun d os => ⟨by rw [← hr.out, decide_eq_false (fun e => hyz (hs.out.1 (by rw [e])))], hb.out.1.trans ((below_regrown wr d os).mono hb.out.1.size)⟩)
        clear hb hyz hs
        go_wp2_with fail
        refine wp_region_quiet_below (by kernel_rfl) (by kernel_rfl) ?_
        repeat (quiet_step (exact KS.out _ _))
        refine wpQuiet_nil ?_
        intro _ hw'
        obtain ⟨⟨dq, osq⟩, hw''⟩ := hw'
        subst hw''
        go_wp2_with fail
        go_ret
        exact hf.out _ _
    · obtain rfl : k = n := by omega
      have e1 : decide ((k : Int) < (k : Int)) = false := decide_eq_false (by omega)
      have hf : Hid (SaPost r w (.returned (.bool true)) wr) := Lib.hid ⟨by
        have h := hb.out.2
        rw [List.take_of_length_le (by rw [List.length_map, hn.out]; exact Nat.le_refl _), List.take_of_length_le (by rw [List.length_map, hm.out]; exact Nat.le_refl _)] at h
        rw [← hr.out, decide_eq_true h], hb.out.1⟩
      clear hb
      go_wp2_with fail
      go_ret
      exact hf.out
end Go.Proofs.Ytpdidgacmikllaa.tj
