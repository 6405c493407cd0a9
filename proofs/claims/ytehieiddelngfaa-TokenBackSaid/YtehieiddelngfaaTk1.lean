/-
  token: IsKey, behindNote.
-/
import Derived.Test.YtehieiddelngfaaTk
import Derived.Test.YtehieiddelngfaaRow
import Derived.Test.YtehieiddelngfaaShelf
namespace Go.Proofs.Ytehieiddelngfaa.tk
open Go.RowKit Go.Proofs.Ytehieiddelngfaa.dg Go.Proofs.Ytehieiddelngfaa.mem

/-- what strings.Contains asks of the world -/
def MaxAt (w : World) : Prop := ∃ m, w.cell? ⟨0, 0, none⟩ = some (.int .i64 m)

theorem MaxAt.below {w w' : World} (h : MaxAt w) (b : Below w.heap.size w w') : MaxAt w' := by
  obtain ⟨m, hm⟩ := h
  exact ⟨m, (b.cell (World.block_lt_of_cell? w _ hm)).trans hm⟩

theorem MaxAt.drewN {w : World} (h : MaxAt w) (n : Nat) : MaxAt (w.drewN n) := h

theorem iskey_any (w : World) (s : ByteArray) (hs : s.size ≤ 4611686018427387904) (hm : MaxAt w) : Calls Try.prog 59 #[.string s] w fun e w' => e = .returned (.bool (keyB s.data.toList)) ∧ w = w' := by
  have hsz1 : (({ data := #[32] } : ByteArray) ++ s).size = 1 + s.size := by rw [ByteArray.size_append]; rfl
  obtain ⟨m, hm⟩ := hm
  have hk := key_iff s.data.toList
  have K1 := Lib.hid (Try.strings_Contains_one s 32 w)
  generalize hq : decide (0 ≤ Lib.indexByte s.data.toList 32) = q at *
  cases q with
  | true =>
    have hk' : keyB s.data.toList = false := by rw [← hk]; rfl
    rw [hk']
    clear hk hk'
    go_enter Try.func59, Try.ntmps59
    go_wp2_with fail
    refine K1.out.mono ?_
    rintro e w' ⟨rfl, rfl⟩
    go_wp2_with fail
    go_ret
    exact ⟨rfl, rfl⟩
  | false =>
    have hk' : keyB s.data.toList = Lib.contains (blanked keysL) (32 :: (s.data.toList ++ [32])) := by rw [← hk]; rfl
    rw [hk']
    clear hk hk'
    go_enter Try.func59, Try.ntmps59
    go_wp2_with fail
    refine K1.out.mono ?_
    rintro e w' ⟨rfl, rfl⟩
    go_wp2_with fail
    refine Calls.mono (Try.strings_Contains _ _ m w' ?hsz hm) ?_
    case hsz => decide +kernel
    rintro e w1 ⟨rfl, rfl⟩
    go_wp2_with fail
    go_ret
    exact ⟨rfl, rfl⟩

theorem note_of (s : ByteArray) : (Lib.indexByte s.data.toList 10 = -1 → note s.data.toList = []) ∧ ∀ i : Nat, Lib.indexByte s.data.toList 10 = i → i ≤ s.size ∧ note s.data.toList = s.data.toList.drop i := by
  have key : ∀ l : List UInt8, (Lib.indexByte l 10 = -1 → note l = []) ∧ ∀ i : Nat, Lib.indexByte l 10 = i → i ≤ l.length ∧ note l = l.drop i := by
    intro l
    induction l with
    | nil => exact ⟨fun _ => rfl, fun i h => by unfold Lib.indexByte at h; omega⟩
    | cons c l ih =>
      unfold Lib.indexByte note
      rw [List.dropWhile_cons]
      by_cases hc : c = 10
      · subst hc
        refine ⟨fun h => by simp at h, fun i h => ?_⟩
        have : i = 0 := by simp at h; omega
        subst this
        exact ⟨Nat.zero_le _, by simp⟩
      · have h1 : (c == 10) = false := by simpa using hc
        have h2 : (c != 10) = true := by simpa using hc
        rw [h1, h2, if_pos rfl]
        simp only [Bool.false_eq_true, if_false]
        have hge := Lib.indexByte_ge l 10
        refine ⟨fun h => ih.1 ?_, fun i h => ?_⟩
        · split at h
          · rename_i h3; simpa using h3
          · omega
        · split at h
          · omega
          · obtain ⟨j, rfl⟩ : ∃ j : Nat, i = j + 1 := ⟨i - 1, by rename_i h3; simp at h3; omega⟩
            obtain ⟨h4, h5⟩ := ih.2 j (by omega)
            exact ⟨by simpa using h4, by rw [List.drop_succ_cons]; exact h5⟩
  have := key s.data.toList
  rw [size_list] at this
  exact this

theorem ext_list (s : ByteArray) (k : Nat) : (s.extract k s.size).data.toList = s.data.toList.drop k := by
  rw [ByteArray.data_extract, Array.toList_extract]
  rw [List.extract_eq_take_drop, List.take_of_length_le]
  rw [List.length_drop, size_list]
  omega

theorem ext_take (s : ByteArray) (k : Nat) : (s.extract 0 k).data.toList = s.data.toList.take k := by
  rw [ByteArray.data_extract, Array.toList_extract, List.extract_eq_take_drop]
  simp

theorem note_any (w : World) (s : ByteArray) (hs : s.size ≤ maxLen) : Calls Try.prog 39 #[.string s] w fun e w' => (∃ t, e = .returned (.string t) ∧ t.data.toList = note s.data.toList) ∧ w = w' := by
  unfold maxLen at hs
  obtain ⟨n1, n2⟩ := note_of s
  have K1 := Lib.hid (Try.strings_IndexByte s 10 w)
  have hge := Lib.indexByte_ge s.data.toList 10
  have hten : (10 : Int).toNat.toUInt8 = 10 := rfl
  rw [hten] at K1
  rcases Int.lt_or_le (Lib.indexByte s.data.toList 10) 0 with h | h
  · have h1 : Lib.indexByte s.data.toList 10 = -1 := by omega
    have Hn := Lib.hid (n1 h1)
    rw [h1] at K1
    clear n1 n2 hge h h1
    go_enter Try.func39, Try.ntmps39
    go_wp2_with fail
    refine K1.out.mono ?_
    rintro e w' ⟨rfl, rfl⟩
    go_wp2_with fail
    go_ret
    exact ⟨⟨_, rfl, Hn.out.symm⟩, rfl⟩
  · obtain ⟨i, hi⟩ : ∃ i : Nat, Lib.indexByte s.data.toList 10 = i := ⟨(Lib.indexByte s.data.toList 10).toNat, by omega⟩
    obtain ⟨h1, h2⟩ := n2 i hi
    have Hn := Lib.hid h2
    rw [hi] at K1
    clear n1 n2 hge h hi h2
    go_enter Try.func39, Try.ntmps39
    go_wp2_with fail
    refine K1.out.mono ?_
    rintro e w' ⟨rfl, rfl⟩
    go_wp2_with fail
    go_ret
    exact ⟨⟨s.extract i s.size, rfl, (ext_list s i).trans Hn.out.symm⟩, rfl⟩
end Go.Proofs.Ytehieiddelngfaa.tk
