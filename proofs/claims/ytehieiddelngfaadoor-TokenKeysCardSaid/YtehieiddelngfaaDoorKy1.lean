/-
  token: the language's own words: IsKey and its reference; two lists that are the same.
-/
import Derived.Test.YtehieiddelngfaaDoorKy
import Derived.Test.YtehieiddelngfaaDoorShelf
import Derived.Sort.EncStr
namespace Go.Proofs.YtehieiddelngfaaDoor.ky
open Go.RowKit Go.Shelf Go.Proofs.YtehieiddelngfaaDoor.mem

/-- what strings.Contains asks of the world -/
def MaxAt (w : World) : Prop := ∃ m, w.cell? ⟨2, 0, none⟩ = some (.int .i64 m)

theorem MaxAt.below {w w' : World} (h : MaxAt w) (b : Below w.heap.size w w') : MaxAt w' := by
  obtain ⟨m, hm⟩ := h
  exact ⟨m, (b.cell (World.block_lt_of_cell? w _ hm)).trans hm⟩

theorem MaxAt.drewN {w : World} (h : MaxAt w) (n : Nat) : MaxAt (w.drewN n) := h

theorem iskey_any (w : World) (s : ByteArray) (hs : s.size ≤ 4611686018427387904) (hm : MaxAt w) : Calls Tryd.prog 7 #[.string s] w fun e w' => e = .returned (.bool (keyB s.data.toList)) ∧ w = w' := by
  have hsz1 : (({ data := #[32] } : ByteArray) ++ s).size = 1 + s.size := by rw [ByteArray.size_append]; rfl
  obtain ⟨m, hm⟩ := hm
  have hk := key_iff s.data.toList
  have K1 := Lib.hid (Tryd.strings_Contains_one s 32 w)
  generalize hq : decide (0 ≤ Lib.indexByte s.data.toList 32) = q at *
  cases q with
  | true =>
    have hk' : keyB s.data.toList = false := by rw [← hk]; rfl
    rw [hk']
    clear hk hk'
    go_enter Tryd.func7, Tryd.ntmps7
    go_wp2_with fail
    refine K1.out.mono ?_
    rintro e w' ⟨rfl, rfl⟩
    go_wp2_with fail
    go_ret
    exact ⟨rfl, rfl⟩
  | false =>
    have hk' : keyB s.data.toList = Lib.contains (blanked keysL) (32 :: (s.data.toList ++ [32])) := by rw [← hk]; rfl
    rw [hk']
    clear hk hk'
    go_enter Tryd.func7, Tryd.ntmps7
    go_wp2_with fail
    refine K1.out.mono ?_
    rintro e w' ⟨rfl, rfl⟩
    go_wp2_with fail
    refine Calls.mono (Tryd.strings_Contains _ _ m w' ?hsz hm) ?_
    case hsz => decide +kernel
    rintro e w1 ⟨rfl, rfl⟩
    go_wp2_with fail
    go_ret
    exact ⟨rfl, rfl⟩

abbrev encS (l : List UInt8) : Value := .string (BA l)

theorem keys_any (w : World) : Calls Tryd.prog 6 #[] w fun e w' => e = .returned (.slice (some ⟨w.heap.size, 0, none⟩) 32 32) ∧ w' = w.alloc (.cells (keysL.map encS).toArray 9) := by
  go_enter Tryd.func6, Tryd.ntmps6
  go_wp2_with fail
  go_ret
  exact ⟨rfl, rfl⟩

set_option maxRecDepth 100000 in
theorem tkey_any (w : World) (l : List UInt8) : Calls Tryd.prog 8 #[.string (BA l)] w fun e w' => e = .returned (.bool (keyB l)) ∧ Below w.heap.size w w' := by
  obtain ⟨q, hq⟩ : ∃ q, Hid (keyB l = q) := ⟨_, Lib.hid rfl⟩
  rw [hq.out]
  have K1 := Lib.hid (keys_any w)
  have HB := Lib.hid ((Below.refl w.heap.size w).alloc (Nat.le_refl _) (.cells (keysL.map encS).toArray 9))
  have HC : Hid (∀ k (hk : k < keysL.length), (w.alloc (.cells (keysL.map encS).toArray 9)).cell? ⟨w.heap.size, k, none⟩ = some (.string (BA keysL[k]))) := Lib.hid (fun k hk => by rw [(Box.new w 9 _).cell k]; simp [hk])
  have hkl : keysL.length = 32 := rfl
  have HL := Lib.hid hkl
  have HM := Lib.hid (show keyB l = decide (l ∈ keysL) from rfl)
  obtain ⟨KS, hKS⟩ : ∃ KS, Hid (KS = keysL) := ⟨_, Lib.hid rfl⟩
  rw [← hKS.out] at HL HM HC K1 HB
  have hk32 : KS.length = 32 := HL.out
  obtain ⟨w1, hw1⟩ : ∃ w1, Hid (w1 = w.alloc (.cells (KS.map encS).toArray 9)) := ⟨_, Lib.hid rfl⟩
  rw [← hw1.out] at HC K1 HB
  clear hkl
  go_enter Tryd.func8, Tryd.ntmps8
  go_wp2_with fail
  refine K1.out.mono ?_
  rintro e w2 ⟨rfl, rfl⟩
  go_wp2_with fail
  go_loopw [4] (fun i wr => ∃ k : Nat, k ≤ 32 ∧ i = .int .i64 k ∧ Hid (l ∉ KS.take k) ∧ w2 = wr) (fun i _ => 32 - (intOf i).toNat)
  case atStart => exact ⟨0, by omega, rfl, Lib.hid (by simp), rfl⟩
  case round =>
    obtain ⟨k, hk, rfl, hnot, rfl⟩ := hrel
    by_cases hkl : k < 32
    · have e1 : decide ((k : Int) < 32) = true := decide_eq_true (by omega)
      have ck := HC.out k (by omega)
      rcases heq : (KS[k] == l) with _ | _
      · have hn2 : Hid (l ∉ KS.take (k + 1)) := Lib.hid (by
          rw [List.take_succ_eq_append_getElem (by omega), List.mem_append, List.mem_singleton]
          rintro (h | h)
          · exact hnot.out h
          · rw [← h] at heq; simp at heq)
        go_wp2_with fail
        go_roundw
        case rel => exact ⟨k + 1, by omega, by go_num, hn2, trivial⟩
        case measure => simp [intOf]; omega
      · have hq2 : q = true := by
          rw [← hq.out, HM.out, decide_eq_true_iff, ← eq_of_beq heq]
          exact List.getElem_mem _
        subst hq2
        go_wp2_with fail
        go_ret
        exact ⟨rfl, HB.out⟩
    · obtain rfl : k = 32 := by omega
      have hq2 : q = false := by
        have := hnot.out
        rw [List.take_of_length_le (by omega)] at this
        rw [← hq.out, HM.out, decide_eq_false this]
      subst hq2
      go_wp2_with fail
      go_ret
      exact ⟨rfl, HB.out⟩

theorem rd_str {w : World} {A : Option Addr} {l : List (List UInt8)} (h : Rd w A (l.map encStr)) (hz : 0 < l.length) : ∃ g o, A = some ⟨g, o, none⟩ ∧ g < w.heap.size ∧ ∀ j (hj : j < l.length), w.cell? ⟨g, o + j, none⟩ = some (encStr l[j]) := by
  obtain ⟨g, o, rfl, hl, hc⟩ := h (by simpa using hz)
  exact ⟨g, o, rfl, hl, fun j hj => by rw [hc j (by simpa using hj)]; simp⟩

set_option maxRecDepth 100000 in
theorem same_nil (w : World) (A B : Option Addr) (c d : Nat) : Calls Tryd.prog 5 #[.slice A 0 c, .slice B 0 d] w fun e w' => e = .returned (.bool true) ∧ Below w.heap.size w w' := by
  go_enter Tryd.func5, Tryd.ntmps5
  go_wp2_with fail
  go_loopw [5] (fun i wr => i = .int .i64 0 ∧ w = wr) (fun _ _ => 0)
  case atStart => exact ⟨rfl, rfl⟩
  case round =>
    obtain ⟨rfl, rfl⟩ := hrel
    go_wp2_with fail
    go_ret
    exact ⟨rfl, Below.refl _ _⟩

set_option maxRecDepth 100000 in
theorem same_any (w : World) (A B : Option Addr) (c d : Nat) (l : List (List UInt8)) (hA : Rd w A (l.map encStr)) (hB : Rd w B (l.map encStr)) (hll : l.length ≤ 100000) :
    Calls Tryd.prog 5 #[.slice A l.length c, .slice B l.length d] w fun e w' => e = .returned (.bool true) ∧ Below w.heap.size w w' := by
  rcases Nat.eq_zero_or_pos l.length with hz | hz
  · rw [hz]; exact same_nil w A B c d
  obtain ⟨g1, o1, rfl, hl1, h1⟩ := rd_str hA hz
  obtain ⟨g2, o2, rfl, hl2, h2⟩ := rd_str hB hz
  have H1 := Lib.hid h1
  have H2 := Lib.hid h2
  have L1 := Lib.hid hl1
  have L2 := Lib.hid hl2
  clear h1 h2 hA hB hl1 hl2
  have d0 : (((l.length : Nat) : Int) != (l.length : Int)) = false := by simp
  go_enter Tryd.func5, Tryd.ntmps5
  go_wp2_with fail
  go_loopw [5] (fun i wr => ∃ k : Nat, k ≤ l.length ∧ i = .int .i64 k ∧ Hid (Below w.heap.size w wr)) (fun i _ => l.length - (intOf i).toNat)
  case atStart => exact ⟨0, by omega, rfl, Lib.hid (Below.refl _ _)⟩
  case round =>
    obtain ⟨k, hk, rfl, hb⟩ := hrel
    rename_i wr _
    by_cases hkl : k < l.length
    · have e1 : decide ((k : Int) < (l.length : Int)) = true := decide_eq_true (by omega)
      have ck : wr.cell? ⟨g1, o1 + k, none⟩ = some (encStr l[k]) := (hb.out.cell (p := ⟨g1, o1 + k, none⟩) L1.out).trans (H1.out k hkl)
      have cm : wr.cell? ⟨g2, o2 + k, none⟩ = some (encStr l[k]) := (hb.out.cell (p := ⟨g2, o2 + k, none⟩) L2.out).trans (H2.out k hkl)
      unfold encStr at ck cm
      generalize (ByteArray.mk l[k].toArray) = z at *
      have e2 : (z.data != z.data) = false := by simp
      have hb2 := Lib.hid hb.out.drew
      clear hb
      go_wp2_with fail
      go_region
      go_wp2_with fail
      go_roundw
      case rel => exact ⟨k + 1, by omega, by go_num, hb2⟩
      case measure => simp [intOf]; omega
    · obtain rfl : k = l.length := by omega
      have e1 : decide ((l.length : Int) < (l.length : Int)) = false := decide_eq_false (by omega)
      go_wp2_with fail
      go_ret
      exact ⟨rfl, hb.out⟩
end Go.Proofs.YtehieiddelngfaaDoor.ky
