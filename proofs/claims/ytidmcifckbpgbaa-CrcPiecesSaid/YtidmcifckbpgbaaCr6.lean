/- The law CrcPieces, walked: bytes that go in in pieces. -/
import Derived.Test.YtidmcifckbpgbaaCr5
import Derived.Test.YtidmcifckbpgbaaOpen
namespace Go.Proofs.Ytidmcifckbpgbaa.cr
open Go.RowKit

theorem works_any (w : World) : Calls Try.prog 40 #[] w fun e w' => e = .returned (.bool true) ∧ Below w.heap.size w w' := by
  have h1 := Lib.hid (fun w => of_any ⟨#[49, 50, 51, 52, 53, 54, 55, 56, 57]⟩ w (by decide))
  have h2 := Lib.hid (fun w => seal_any ⟨#[]⟩ w (by decide))
  have e1 : sumN (ByteArray.mk #[49, 50, 51, 52, 53, 54, 55, 56, 57]).data.toList = 2215682 := by decide +kernel
  have e2 : (sealS ⟨#[]⟩).size = 3 := by decide +kernel
  rw [e1] at h1
  unfold SumPost at h1
  unfold SealPost at h2
  generalize sealS ⟨#[]⟩ = z at *
  clear e1
  go_enter Try.func40, Try.ntmps40
  go_wp2_with fail
  refine (h1.out _).mono ?_
  rintro e w1 ⟨rfl, b1⟩
  go_wp2_with fail
  refine (h2.out _).mono ?_
  rintro e w2 ⟨rfl, b2⟩
  go_wp2_with fail
  go_ret
  exact ⟨rfl, b1.trans (b2.mono b1.size)⟩

/-- the texts of a list, one behind the other -/
def catN (ss : List ByteArray) : Nat → ByteArray
  | 0 => ⟨#[]⟩
  | k + 1 => catN ss k ++ ss.getD k ByteArray.empty

theorem cat_sum (ss : List ByteArray) (k : Nat) : sumN (catN ss (k + 1)).data.toList = sumFrom (sumN (catN ss k).data.toList) (ss.getD k ByteArray.empty).data.toList := by
  unfold sumN
  rw [← sumFrom_append]
  simp [catN]

theorem cat_size (ss : List ByteArray) (k : Nat) : (catN ss (k + 1)).size = (catN ss k).size + (ss.getD k ByteArray.empty).size := by
  show (catN ss k ++ ss.getD k ByteArray.empty).size = _
  simp

set_option maxHeartbeats 1000000 in
theorem law_pieces_at (v : Value) (ss : List ByteArray) (w : World) (h : opn.StrsAt w v ss) :
    Calls Try.prog 11 #[v] w fun e w' => e = .returned (.bool true) ∧ Below w.heap.size w w' := by
  obtain ⟨hsz, hlen, h⟩ := h
  have Hw := Lib.hid works_any
  rcases h with ⟨a, cap, rfl, hnil⟩ | ⟨hpos, b, off, cap, rfl, hb, hcell⟩
  · go_enter Try.func11, Try.ntmps11
    go_wp2_with fail
    refine (Hw.out _).mono ?_
    rintro e w1 ⟨rfl, b1⟩
    go_wp2_with fail
    refine wp_loop_rounds 1 ?_
    rw [rounds_succ]
    go_wp2_with fail
    go_ret
    exact ⟨rfl, b1.alloc b1.size _⟩
  · have HC := Lib.hid (fun k => cat_sum ss k)
    have HZ := Lib.hid (fun k => cat_size ss k)
    have H0 : Hid (catN ss 0 = ⟨#[]⟩) := Lib.hid rfl
    have HN : Hid (∀ k, catN ss (k + 1) = catN ss k ++ ss.getD k ByteArray.empty) := Lib.hid fun _ => rfl
    have Hcell := Lib.hid hcell
    have Hsz : Hid (∀ i, (ss.getD i ByteArray.empty).size ≤ maxLen) := Lib.hid fun i => by
      rw [List.getD_eq_getElem?_getD]
      rcases hg : ss[i]? with _ | x
      · simp
      · exact hsz x (List.mem_of_getElem? hg)
    generalize catN ss = cat at *
    generalize hel : (fun i => ss.getD i ByteArray.empty) = el
    replace HC : Hid (∀ k, sumN (cat (k + 1)).data.toList = sumFrom (sumN (cat k).data.toList) (el k).data.toList) := by subst hel; exact HC
    replace HZ : Hid (∀ k, (cat (k + 1)).size = (cat k).size + (el k).size) := by subst hel; exact HZ
    replace HN : Hid (∀ k, cat (k + 1) = cat k ++ el k) := by subst hel; exact HN
    replace Hcell : Hid (∀ i, i < ss.length → w.cell? ⟨b, off + i, none⟩ = some (.string (el i))) := by subst hel; exact Hcell
    replace Hsz : Hid (∀ i, (el i).size ≤ maxLen) := by subst hel; exact Hsz
    clear hel hcell hsz
    generalize ss.length = n at *
    clear ss
    unfold maxLen at hlen
    go_enter Try.func11, Try.ntmps11
    go_wp2_with fail
    refine (Hw.out _).mono ?_
    rintro e w1 ⟨rfl, b1⟩
    go_wp2_with fail
    have hb1 : b < w1.heap.size := by have := b1.size; omega
    have Hcell1 : Hid (∀ i, i < n → w1.cell? ⟨b, off + i, none⟩ = some (.string (el i))) := Lib.hid fun i hi => by
      rw [b1.cell (p := ⟨b, off + i, none⟩) hb]; exact Hcell.out i hi
    go_loopw [4, 5] (fun v i wr => ∃ (k t : Nat), k ≤ n ∧ k ≤ 40 ∧ i = .int .i64 k ∧ v = .string (cat k) ∧ t < 16777216 ∧ wr.cell? ⟨w1.heap.size, 0, none⟩ = some (.int .u32 t) ∧ wr.frozen? ⟨w1.heap.size, 0, none⟩ = false ∧ w1.heap.size < wr.heap.size ∧ Below w1.heap.size w1 wr ∧ (cat k).size ≤ 300 * k ∧ Hid (t ^^^ 11994318 = sumN (cat k).data.toList)) (fun _ i _ => n - (intOf i).toNat)
    case atStart =>
      refine ⟨0, 0, by omega, by omega, rfl, by rw [H0.out], by omega, by simp, by simp, by simp, (Below.refl _ _).alloc (Nat.le_refl _) _, by rw [H0.out]; decide, Lib.hid (by rw [H0.out]; decide)⟩
    case round =>
      obtain ⟨k, t, hk, hk40, rfl, rfl, ht, hc, hf, hlt1, bl, hcs, hsum⟩ := hrel
      have hfin : Below w.heap.size w wr := b1.trans (bl.mono b1.size)
      by_cases hkn : k < n
      · by_cases hk2 : k < 40
        · have hcl : wr.cell? ⟨b, off + k, none⟩ = some (.string (el k)) := by rw [bl.cell (p := ⟨b, off + k, none⟩) hb1]; exact Hcell1.out k hkn
          have hes := Hsz.out k
          by_cases hl : (el k).size ≤ 300
          · have HC' := Lib.hid (HC.out k)
            have HZ' := Lib.hid (HZ.out k)
            have HN' := Lib.hid (HN.out k)
            have hq : sumFrom (t ^^^ 11994318) (el k).data.toList < 16777216 := sumFrom_lt _ _ (xor_small _ _ ht (by omega))
            have Hq : Hid (sumFrom (t ^^^ 11994318) (el k).data.toList = sumN (cat (k + 1)).data.toList) := Lib.hid (by rw [HC.out, ← hsum.out])
            have Hwr := Lib.hid (fun a w hc hf => write_any a t (el k) w hes ht hc hf)
            have Hro := Lib.hid (fun s w h => rof_any s w h)
            generalize sumFrom (t ^^^ 11994318) (el k).data.toList = q at *
            unfold maxLen at hes
            go_wp2_with fail
            refine (Hwr.out _ _ hc hf).mono ?_
            rintro e w2 ⟨rfl, rfl⟩
            go_wp2_with fail
            have hx2 : q ^^^ 11994318 < 16777216 := xor_small _ _ hq (by omega)
            have Hx3 : Hid (q ^^^ 11994318 ^^^ 11994318 = q) := Lib.hid (by rw [Nat.xor_assoc, Nat.xor_self, Nat.xor_zero])
            refine (value_any _ _ _ hx2 (World.cell?_setCell_same _ _ _ hc)).mono ?_
            rintro e w' ⟨rfl, rfl⟩
            rw [Hx3.out]
            go_wp2_with fail
            refine (Hro.out _ _ (by rw [← HN'.out, HZ'.out]; unfold maxLen; omega)).mono ?_
            rintro e w' ⟨rfl, rfl⟩
            rw [← HN'.out, ← Hq.out]
            go_wp2_with fail
            go_roundw
            case rel => exact ⟨k + 1, q ^^^ 11994318, by omega, by omega, by go_num, by rw [HN'.out], hx2, World.cell?_setCell_same _ _ _ hc, by rw [World.frozen?_setCell]; exact hf, by simpa [World.setCell] using hlt1, bl.setCell (Nat.le_refl _) _, by rw [HZ'.out]; omega, Lib.hid (by rw [Hx3.out, ← Hq.out])⟩
            case measure => simp [intOf]; omega
          · unfold maxLen at hes
            go_wp2_with fail
            go_ret
            exact ⟨rfl, hfin⟩
        · go_wp2_with fail
          go_ret
          exact ⟨rfl, hfin⟩
      · go_wp2_with fail
        go_ret
        exact ⟨rfl, hfin⟩

theorem law_pieces (H : Type) (enc : TypeId × Value → H) (W : World) (v : Value) (d : DataW H) (p : List MemPlace) {base : Nat} (k : DataW.Trod enc Try.prog W 0 (fun _ => true) true 57 v d p)
    (o : Value.okWide Try.prog W .any base 57 v) : Calls Try.prog 11 #[v] W fun e w' => e = .returned (.bool true) ∧ Below W.heap.size W w' := by
  obtain ⟨ss, h⟩ := opn.strs_of Try.underlying57 Try.underlying9 (by kernel_rfl) k o
  exact law_pieces_at v ss W h
end Go.Proofs.Ytidmcifckbpgbaa.cr
