/-
  agenda over texts: Take.
-/
import Derived.Test.YtenohenkedofkaaAgS2
import Derived.Test.YtenohenkedofkaaShelf
namespace Go.Proofs.Ytenohenkedofkaa.ags
open Go.RowKit Go.Proofs.Ytenohenkedofkaa.mem

theorem vals_at (xs : List ByteArray) (j : Nat) : (vals xs)[j]? = (xs[j]?).map Value.string := by simp [vals]

theorem strs_get (xs : List ByteArray) (n j : Nat) (hj : j < n) (hn : n = xs.length) : (Lib.strsOf (fun i => xs.getD i ByteArray.empty) n)[j]? = (xs[j]?).map fun s => s.data.toList := by
  subst hn
  unfold Lib.strsOf
  rw [List.getElem?_map, List.getElem?_range hj, List.getElem?_eq_getElem hj]
  simp [List.getD, List.getElem?_eq_getElem hj]

theorem enc_list (s : ByteArray) : encStr s.data.toList = .string s := by
  unfold encStr
  rw [Array.toArray_toList]

/-- slices.Delete of one -/
theorem del_any (w : World) (A : Option Addr) (cap : Nat) (xs : List ByteArray) (k : Nat) (h : Seg w 9 A cap (vals xs)) (hk : k < xs.length) :
    Calls Try.prog 50 #[.slice A xs.length cap, .int .i64 k, .int .i64 (k + 1)] w fun e w' => e = .returned (.slice A ((xs.eraseIdx k).length) cap) ∧ Seg w' 9 A cap (vals (xs.eraseIdx k)) ∧ Fr (blk A) w w' := by
  obtain ⟨g, off, rfl, hlt, hc⟩ := h.at_ (by rw [vals_len]; omega)
  have hcap := h.1
  rw [vals_len] at hcap
  have hmax := h.2.1
  unfold maxLen at hmax
  have hlen : (xs.eraseIdx k).length = xs.length - 1 := by rw [List.length_eraseIdx, if_pos hk]
  have hcell : ∀ j, j < xs.length → w.cell? ⟨g, off + j, none⟩ = some (.string ((fun i => xs.getD i ByteArray.empty) j)) := fun j hj => by
    rw [hc j (by rw [vals_len]; exact hj)]
    simp [vals, List.getD, List.getElem?_eq_getElem hj]
  refine ((Try.slices_Delete_string_cells g off xs.length cap k (k + 1) (fun i => xs.getD i ByteArray.empty) w hcap (by omega) (by omega) (by omega) hcell (fun j _ => h.free _))).mono ?_
  rintro e w' ⟨rfl, q, rfl⟩
  have hsl := Lib.strsOf_length (fun i => xs.getD i ByteArray.empty) xs.length
  have hget := fun j hj => strs_get xs xs.length j hj rfl
  generalize Lib.strsOf (fun i => xs.getD i ByteArray.empty) xs.length = L at *
  refine ⟨by rw [hlen, show k + 1 - k = 1 by omega], ?_, ?_⟩
  · have hs : Seg (w.drewN q) 9 (some ⟨g, off, none⟩) cap (vals xs) := h.kept ((Fr.refl [] w).drewN q) (by simp)
    refine hs.laid _ _ (by simp; omega) (fun j u hu => ?_) (by rw [vals_len, hlen]; omega)
    rw [vals_at, List.getElem?_eraseIdx] at hu
    rw [List.getElem?_map]
    by_cases hj : j < k
    · rw [if_pos hj] at hu
      rw [List.append_assoc, List.getElem?_append_left (by simp; omega), List.getElem?_take, if_pos hj, hget j (by omega)]
      rw [← hu, List.getElem?_eq_getElem (by omega)]
      simp [enc_list]
    · rw [if_neg hj] at hu
      have hj2 : j + 1 < xs.length := by
        rcases Nat.lt_or_ge (j + 1) xs.length with h | h
        · exact h
        · rw [List.getElem?_eq_none h] at hu; cases hu
      have hkl : (L.take k).length = k := by simp; omega
      rw [List.append_assoc, List.getElem?_append_right (by omega), List.getElem?_append_left (by simp; omega), List.getElem?_drop, hkl, show k + 1 + (j - k) = j + 1 by omega, hget _ hj2]
      rw [← hu, List.getElem?_eq_getElem hj2]
      simp [enc_list]
  · rw [blk_some]
    exact ((Fr.refl [g] w).drewN q).trans (setCells_fr g _ off _) (fun _ h => Or.inl h) (fun _ h => Or.inl h)

theorem take_none (w : World) (b : Nat) (A : Option Addr) (cap : Nat) (v : Value) (n : Int) (h : Box w b 62 #[.slice A 0 cap, v]) :
    Calls Try.prog 36 #[.pointer (some ⟨b, 0, none⟩), .int .i64 n] w fun e w' => e = .returned (.tuple #[.string ⟨#[]⟩, .bool false]) ∧ w = w' := by
  have H := Lib.hid (len_any w b A cap 0 v h)
  clear h
  go_enter Try.func36, Try.ntmps36
  go_wp2_with fail
  refine H.out.mono ?_
  rintro e w' ⟨rfl, rfl⟩
  go_wp2_with fail
  go_ret2
  exact ⟨rfl, rfl⟩

/-- the place that a number picks -/
def pickN (n : Int) (L : Nat) : Nat := (IntKind.u64.wrap n).toNat % L

theorem u64_nonneg (n : Int) : 0 ≤ IntKind.u64.wrap n ∧ IntKind.u64.wrap n < 18446744073709551616 := by
  rw [IntKind.wrap_u64]
  omega

theorem pick_eq (n : Int) (L : Nat) (h : 0 < L) (hL : L ≤ 4611686018427387904) : wrap64 ((IntKind.u64.wrap n).tmod (L : Int)) = (pickN n L : Int) := by
  obtain ⟨h0, h1⟩ := u64_nonneg n
  unfold pickN
  generalize IntKind.u64.wrap n = u at *
  obtain ⟨v, rfl⟩ := Int.eq_ofNat_of_zero_le h0
  have hm := Nat.mod_lt v h
  have e : ((v : Int)).tmod (L : Int) = ((v % L : Nat) : Int) := rfl
  rw [e]
  have e2 : ((v : Int)).toNat = v := rfl
  rw [e2]
  unfold wrap64
  omega

theorem pick_lt (n : Int) (L : Nat) (h : 0 < L) : pickN n L < L := Nat.mod_lt _ h

def TakePost (w : World) (b : Nat) (A : Option Addr) (m : Option Nat) (N : Nat) (xs : List ByteArray) (k : Nat) (e : Ending) (w' : World) : Prop :=
  e = .returned (.tuple #[.string (xs.getD k ByteArray.empty), .bool true]) ∧ Fr (foot b A m) w w' ∧ ∃ A' cap', Ag w' b A' cap' m N (xs.eraseIdx k) ∧ blk A' = blk A

theorem has_del (D : DataW Unit) (xs : List ByteArray) (k : Nat) (hk : k < xs.length) (hn : xs.Nodup) (h : ∀ y, WF y → Maps.has D (.string y.data.toList) = decide (y ∈ xs)) : ∀ y, WF y → Maps.has (D.del (.string (xs.getD k ByteArray.empty).data.toList)) (.string y.data.toList) = decide (y ∈ xs.eraseIdx k) := by
  intro y hy
  have hx : xs.getD k ByteArray.empty = xs[k] := by simp [List.getD, List.getElem?_eq_getElem hk]
  rw [hx]
  have hne : xs[k] ∉ xs.eraseIdx k := by
    intro hm
    rw [List.mem_eraseIdx_iff_getElem] at hm
    obtain ⟨i, hi, hne, e⟩ := hm
    exact hne ((List.getElem_inj hn).1 e)
  by_cases e : y = xs[k]
  · subst e
    rw [Maps.has_del_same, decide_eq_false hne]
  · rw [Maps.has_del_other (fun h => e (by injection h with h; exact bytes_eq h)), h y hy]
    have : y ∈ xs ↔ y ∈ xs.eraseIdx k := by
      rw [List.mem_eraseIdx_iff_getElem]
      constructor
      · intro hm
        obtain ⟨i, hi, rfl⟩ := List.mem_iff_getElem.1 hm
        exact ⟨i, hi, fun he => e (by subst he; rfl), rfl⟩
      · rintro ⟨i, hi, _, rfl⟩
        exact List.getElem_mem hi
    exact decide_eq_decide.2 this

/-- the agenda behind Take -/
theorem take_end {w w2 w3 : World} {b : Nat} {A A' : Option Addr} {cap cap' mb N : Nat} {xs : List ByteArray} {k : Nat} {D : DataW Unit} (h : Ag w b A cap (some mb) N xs) (hk : k < xs.length) (f2 : Fr (foot b A (some mb)) w w2)
    (hb2 : Box w2 b 62 #[.slice A' (xs.eraseIdx k).length cap', .map (some mb)]) (hs2 : Seg w2 9 A' cap' (vals (xs.eraseIdx k))) (hbA : blk A' = blk A)
    (ho2 : w2.ownsMap (H := Unit) Try.prog 9 unitElem mb N D) (ho3 : w3.ownsMap (H := Unit) Try.prog 9 unitElem mb N (D.del (.string (xs.getD k ByteArray.empty).data.toList))) (ht : w2.mapTurned w3 mb) (hh : ∀ y, WF y → Maps.has D (.string y.data.toList) = decide (y ∈ xs)) :
    TakePost w b A (some mb) N xs k (.returned (.tuple #[.string (xs.getD k ByteArray.empty), .bool true])) w3 := by
  have f3 : Fr [mb] w2 w3 := (Fr.refl _ w2).grown ht.grown (fun j hj => (by cases hj; exact Or.inl (by simp)))
  have hne := box_ne_map hb2 ho2
  refine ⟨rfl, f2.trans f3 (fun g hg => Or.inl hg) (fun g hg => Or.inl (by rw [List.mem_singleton] at hg; subst hg; simp [foot])), A', cap', ⟨hb2.kept f3 (by simpa using hne), hs2.kept f3 (fun g hg he => by rw [List.mem_singleton] at he; subst he; exact seg_ne_map hs2 ho2 hg), Or.inr ⟨mb, _, rfl, ho3, has_del D xs k hk h.nod hh⟩, h.nod.sublist (List.eraseIdx_sublist _ _), fun y hy => h.wf y ((List.eraseIdx_sublist _ _).mem hy), ?_⟩, hbA⟩
  exact Nat.le_trans (List.eraseIdx_sublist _ _).length_le h.len

set_option maxRecDepth 100000 in
set_option maxHeartbeats 400000 in
theorem take_first (w : World) (b : Nat) (A : Option Addr) (cap mb N : Nat) (xs : List ByteArray) (n : Int) (h : Ag w b A cap (some mb) N xs) (hz : 0 < xs.length) (hk : pickN n xs.length = 0) (hN : N < 1000000) :
    Calls Try.prog 36 #[.pointer (some ⟨b, 0, none⟩), .int .i64 n] w (TakePost w b A (some mb) N xs 0) := by
  have hlen := h.len
  have hp := pick_eq n xs.length hz (by omega)
  rw [hk] at hp
  have hp : wrap64 ((IntKind.u64.wrap n).tmod (xs.length : Int)) = 0 := hp
  obtain ⟨x, ys, rfl⟩ : ∃ x ys, xs = x :: ys := by cases xs with | nil => simp at hz | cons x ys => exact ⟨x, ys, rfl⟩
  have hs := h.seg
  obtain ⟨A', cap', hsl, hA', hkeep⟩ := Seg.tail (x := .string x) (xs := vals ys) hs Try.underlying58 (fun w => by kernel_rfl)
  rw [vals_len] at hsl
  obtain ⟨g, off, hA, hlt, hc⟩ := hs.at_ (by simp [vals])
  have hc0 : w.cell? ⟨g, off, none⟩ = some (.string x) := hc 0 (by simp [vals])
  have hset := h.set
  rcases hset with ⟨h0, _⟩ | ⟨mb', D, h0, ho, hD⟩
  · cases h0
  injection h0 with h0
  subst h0
  have hf : x ∈ x :: ys := List.mem_cons_self
  have hx := h.wf x hf
  have Hh := Lib.hid h
  have Hx := Lib.hid hx
  have HD := Lib.hid hD
  have Hz := Lib.hid hz
  have Hkeep := Lib.hid hkeep
  have HA' := Lib.hid hA'
  have HA := Lib.hid hA
  have Ho := Lib.hid ho
  have Hb := Lib.hid (h.box)
  have H := Lib.hid (fun w hb => len_any w b A cap (ys.length + 1) (.map (some mb)) hb)
  have c0 : w.cell? ⟨b, 0, none⟩ = some (.slice (some ⟨g, off, none⟩) (ys.length + 1) cap) := hA ▸ h.box.cell 0
  have f0 : w.frozen? ⟨b, 0, none⟩ = false := h.box.free 0
  have l0 := h.box.lt
  have Hb2 : Hid (Box (w.setCell ⟨b, 0, none⟩ (.slice A' ys.length cap')) b 62 #[.slice A' ys.length cap', .map (some mb)]) := Lib.hid (by have := h.box.put 0 (.slice A' ys.length cap'); simpa using this)
  have Ho2 : Hid (World.ownsMap (H := Unit) (w.setCell ⟨b, 0, none⟩ (.slice A' ys.length cap')) Try.prog 9 unitElem mb N D) := Lib.hid (ho.setCell (Ne.symm (box_ne_map h.box ho)) _)
  have Hs2 : Hid (Seg (w.setCell ⟨b, 0, none⟩ (.slice A' ys.length cap')) 9 A' cap' (vals ys)) := Lib.hid (hkeep _ (hs.kept ((Fr.refl [b] _).setCell (Or.inl (by simp)) _) (fun g hg he => by rw [List.mem_singleton] at he; subst he; exact hs.ne_box h.box (by decide) hg)))
  have c1 : (w.setCell ⟨b, 0, none⟩ (.slice A' ys.length cap')).cell? ⟨b, 1, none⟩ = some (.map (some mb)) := Hb2.out.cell 1
  have hlen : ys.length + 1 ≤ N := hlen
  have hp : wrap64 ((IntKind.u64.wrap n).tmod ((ys.length : Int) + 1)) = 0 := hp
  subst hA
  clear h hs hz hk hc hD hx hf hA' hkeep HA ho
  go_enter Try.func36, Try.ntmps36
  go_wp2_with fail
  refine (H.out _ Hb.out).mono ?_
  rintro e w' ⟨rfl, rfl⟩
  have hz : ((ys.length : Int) + 1 == 0) = false := by rw [beq_eq_false_iff_ne]; omega
  go_wp2_with (at_delete; refine wpList_delete_own _ rfl _ _ 60 9 rfl 86 (Maps.string_keyed Try.underlying9) Try.underlying60 unitElem mb N D rfl Ho2.out _ (.string x.data.toList) rfl (WideMaps.keyOf_string_mk Try.underlying9 Hx.out) ?_; intro w3 ho3 ht3)
  go_ret2
  exact take_end (k := 0) Hh.out Hz.out ((Fr.refl _ w).setCell (Or.inl (by simp [foot])) _) Hb2.out Hs2.out HA'.out Ho2.out ho3 ht3 HD.out

set_option maxRecDepth 100000 in
set_option maxHeartbeats 400000 in
theorem take_mid (w : World) (b : Nat) (A : Option Addr) (cap mb N : Nat) (xs : List ByteArray) (n : Int) (k : Nat) (h : Ag w b A cap (some mb) N xs) (hz : 0 < xs.length) (hk : pickN n xs.length = k) (hk0 : 0 < k) (hN : N < 1000000) :
    Calls Try.prog 36 #[.pointer (some ⟨b, 0, none⟩), .int .i64 n] w (TakePost w b A (some mb) N xs k) := by
  have hlen := h.len
  have hp := pick_eq n xs.length hz (by omega)
  rw [hk] at hp
  have hkl : k < xs.length := by rw [← hk]; exact pick_lt n _ hz
  obtain ⟨g, off, hA, hlt, hc⟩ := h.seg.at_ (by rw [vals_len]; exact hz)
  have hc0 : w.cell? ⟨g, off + k, none⟩ = some (.string (xs.getD k ByteArray.empty)) := by
    rw [hc k (by rw [vals_len]; exact hkl)]
    simp [vals, List.getD, List.getElem?_eq_getElem hkl]
  have hset := h.set
  rcases hset with ⟨h0, _⟩ | ⟨mb', D, h0, ho, hD⟩
  · cases h0
  injection h0 with h0
  subst h0
  have hx : WF (xs.getD k ByteArray.empty) := h.wf _ (by rw [show xs.getD k ByteArray.empty = xs[k] by simp [List.getD, List.getElem?_eq_getElem hkl]]; exact List.getElem_mem hkl)
  have Hh := Lib.hid h
  have Hx := Lib.hid hx
  have HD := Lib.hid hD
  have Hkl := Lib.hid hkl
  have Ho := Lib.hid ho
  have Hb := Lib.hid (h.box)
  have H := Lib.hid (fun w hb => len_any w b A cap xs.length (.map (some mb)) hb)
  have Hdel := Lib.hid (fun w hs => del_any w A cap xs k hs hkl)
  have c0 : w.cell? ⟨b, 0, none⟩ = some (.slice (some ⟨g, off, none⟩) xs.length cap) := hA ▸ h.box.cell 0
  have l0 := h.box.lt
  have hz0 : ((xs.length : Int) == 0) = false := by rw [beq_eq_false_iff_ne]; omega
  have hzk : ((k : Int) == 0) = false := by rw [beq_eq_false_iff_ne]; omega
  have HE : Hid ((xs.eraseIdx k).length = xs.length - 1) := Lib.hid (by rw [List.length_eraseIdx, if_pos hkl])
  subst hA
  clear h hk hc hD hx hkl hk0 ho
  generalize hL : xs.length = L at *
  have HL := Lib.hid hL
  clear hL
  generalize hX : xs.getD k ByteArray.empty = X at *
  have HX := Lib.hid hX
  clear hX
  generalize hE : (xs.eraseIdx k).length = E at *
  have HEE := Lib.hid hE
  clear hE
  go_enter Try.func36, Try.ntmps36
  go_wp2_with fail
  refine (H.out _ Hb.out).mono ?_
  rintro e w' ⟨rfl, rfl⟩
  go_wp2_with fail
  refine (Hdel.out _ Hh.out.seg).mono ?_
  rintro e w1 ⟨rfl, hs1, f1⟩
  have Hbl : Hid (b ∉ blk (some ⟨g, off, none⟩)) := Lib.hid (Hh.out.seg.ne_box Hh.out.box (by decide))
  have Hb1 := Lib.hid (Hb.out.kept f1 Hbl.out)
  have Ho1 : Hid (World.ownsMap (H := Unit) w1 Try.prog 9 unitElem mb N D) := Lib.hid (map_kept Ho.out f1 (seg_ne_map Hh.out.seg Ho.out))
  have Hs1 := Lib.hid hs1
  have F1 := Lib.hid f1
  have c1 : w1.cell? ⟨b, 0, none⟩ = some _ := Hb1.out.cell 0
  have k1 : w1.frozen? ⟨b, 0, none⟩ = false := Hb1.out.free 0
  have l1 := Hb1.out.lt
  have Hb2 : Hid (Box (w1.setCell ⟨b, 0, none⟩ (.slice (some ⟨g, off, none⟩) E cap)) b 62 #[.slice (some ⟨g, off, none⟩) E cap, .map (some mb)]) := Lib.hid (by have := Hb1.out.put 0 (.slice (some ⟨g, off, none⟩) E cap); simpa using this)
  have Ho2 : Hid (World.ownsMap (H := Unit) (w1.setCell ⟨b, 0, none⟩ (.slice (some ⟨g, off, none⟩) E cap)) Try.prog 9 unitElem mb N D) := Lib.hid (Ho1.out.setCell (Ne.symm (box_ne_map Hb1.out Ho1.out)) _)
  have Hs2 : Hid (Seg (w1.setCell ⟨b, 0, none⟩ (.slice (some ⟨g, off, none⟩) E cap)) 9 (some ⟨g, off, none⟩) cap (vals (xs.eraseIdx k))) := Lib.hid (hs1.kept ((Fr.refl [b] _).setCell (Or.inl (by simp)) _) (fun g hg he => by rw [List.mem_singleton] at he; subst he; exact Hbl.out hg))
  have c2 : (w1.setCell ⟨b, 0, none⟩ (.slice (some ⟨g, off, none⟩) E cap)).cell? ⟨b, 1, none⟩ = some (.map (some mb)) := Hb2.out.cell 1
  clear hs1 f1
  go_wp2_with (at_delete; refine wpList_delete_own _ rfl _ _ 60 9 rfl 86 (Maps.string_keyed Try.underlying9) Try.underlying60 unitElem mb N D rfl Ho2.out _ (.string X.data.toList) rfl (WideMaps.keyOf_string_mk Try.underlying9 Hx.out) ?_; intro w3 ho3 ht3)
  go_ret2
  have e1 := HEE.out
  have e2 := HX.out
  have e3 := HL.out
  clear HEE HX HL
  subst e1
  subst e2
  subst e3
  exact take_end Hh.out Hkl.out ((Fr.trans F1.out (Fr.refl _ _) (fun g hg => Or.inl (by simp only [foot, List.mem_cons, List.mem_append]; exact Or.inr (Or.inl hg))) (fun g hg => Or.inl hg)).setCell (Or.inl (by simp [foot])) _) Hb2.out Hs2.out rfl Ho2.out ho3 ht3 HD.out

theorem take_any (w : World) (b : Nat) (A : Option Addr) (cap : Nat) (m : Option Nat) (N : Nat) (xs : List ByteArray) (n : Int) (h : Ag w b A cap m N xs) (hz : 0 < xs.length) (hN : N < 1000000) :
    Calls Try.prog 36 #[.pointer (some ⟨b, 0, none⟩), .int .i64 n] w (TakePost w b A m N xs (pickN n xs.length)) := by
  cases m with
  | none =>
    rcases h.set with ⟨_, rfl⟩ | ⟨_, _, h0, _⟩
    · simp at hz
    · cases h0
  | some mb =>
    rcases Nat.eq_zero_or_pos (pickN n xs.length) with h0 | h0
    · rw [h0]; exact take_first w b A cap mb N xs n h hz h0 hN
    · exact take_mid w b A cap mb N xs n _ h hz rfl h0 hN
end Go.Proofs.Ytenohenkedofkaa.ags
