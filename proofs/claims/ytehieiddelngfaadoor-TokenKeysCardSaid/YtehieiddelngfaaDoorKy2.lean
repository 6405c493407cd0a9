/-
  token: the law on the language's own words.
-/
import Derived.Test.YtehieiddelngfaaDoorKy1
import Derived.Lib.Space
import Derived.Lib.LaidTab
import Derived.Lib.SmallJoins
namespace Go.Proofs.YtehieiddelngfaaDoor.ky
open Go.RowKit Go.Shelf Go.Proofs.YtehieiddelngfaaDoor.mem

def Tab (w : World) : Prop := Lib.TabIs Tryd.prog w "strings.asciiSpace" .u8 Lib.asciiSpaceTab

theorem Tab.below {w w' : World} (h : Tab w) (b : Below w.heap.size w w') : Tab w' := _root_.Go.Joins.tab_stays (g := 0) (by kernel_rfl) h b (Nat.le_refl _)

def KPost (w : World) (e : Ending) (w' : World) : Prop := e = .returned (.slice (some ⟨w.heap.size, 0, none⟩) 32 32) ∧ w' = w.alloc (.cells (keysL.map encS).toArray 9)

theorem pkeys_any (w : World) (h : Tab w) : Calls Tryd.prog 4 #[] w (KPost w) := by
  have hf : Lib.fields (({ data := #[97, 100, 100, 114, 32, 99, 97, 108, 108, 32, 99, 111, 112, 121, 32, 101, 108, 115, 101, 32, 101, 120, 116, 101, 114, 110, 32, 102, 110, 32, 102, 114, 101, 101, 32, 103, 108, 111, 98, 97, 108, 32, 105, 99, 97, 108, 108, 32, 105, 102, 32, 105, 110, 100, 101, 120, 32, 105, 110, 112, 117, 116, 32, 105, 110, 116, 32, 105, 115, 110, 117, 108, 108, 32, 108, 101, 115, 115, 32, 108, 111, 97, 100, 32, 109, 101, 109, 98, 101, 114, 32, 109, 105, 110, 117, 115, 32, 109, 111, 100, 117, 108, 101, 32, 110, 101, 119, 32, 110, 117, 108, 108, 32, 111, 98, 106, 32, 112, 108, 117, 115, 32, 112, 116, 114, 32, 114, 101, 116, 117, 114, 110, 32, 115, 97, 109, 101, 32, 115, 116, 97, 116, 105, 99, 32, 115, 116, 111, 114, 101, 32, 115, 116, 114, 117, 99, 116, 32, 116, 105, 109, 101, 115, 32, 118, 97, 114, 32, 119, 104, 105, 108, 101] } : ByteArray)).data.toList = keysL := by decide +kernel
  have hl : keysL.length = 32 := rfl
  have ha : ∀ b ∈ (({ data := #[97, 100, 100, 114, 32, 99, 97, 108, 108, 32, 99, 111, 112, 121, 32, 101, 108, 115, 101, 32, 101, 120, 116, 101, 114, 110, 32, 102, 110, 32, 102, 114, 101, 101, 32, 103, 108, 111, 98, 97, 108, 32, 105, 99, 97, 108, 108, 32, 105, 102, 32, 105, 110, 100, 101, 120, 32, 105, 110, 112, 117, 116, 32, 105, 110, 116, 32, 105, 115, 110, 117, 108, 108, 32, 108, 101, 115, 115, 32, 108, 111, 97, 100, 32, 109, 101, 109, 98, 101, 114, 32, 109, 105, 110, 117, 115, 32, 109, 111, 100, 117, 108, 101, 32, 110, 101, 119, 32, 110, 117, 108, 108, 32, 111, 98, 106, 32, 112, 108, 117, 115, 32, 112, 116, 114, 32, 114, 101, 116, 117, 114, 110, 32, 115, 97, 109, 101, 32, 115, 116, 97, 116, 105, 99, 32, 115, 116, 111, 114, 101, 32, 115, 116, 114, 117, 99, 116, 32, 116, 105, 109, 101, 115, 32, 118, 97, 114, 32, 119, 104, 105, 108, 101] } : ByteArray)).data.toList, b.toNat < 128 := by decide +kernel
  have K := Tryd.strings_Fields ({ data := #[97, 100, 100, 114, 32, 99, 97, 108, 108, 32, 99, 111, 112, 121, 32, 101, 108, 115, 101, 32, 101, 120, 116, 101, 114, 110, 32, 102, 110, 32, 102, 114, 101, 101, 32, 103, 108, 111, 98, 97, 108, 32, 105, 99, 97, 108, 108, 32, 105, 102, 32, 105, 110, 100, 101, 120, 32, 105, 110, 112, 117, 116, 32, 105, 110, 116, 32, 105, 115, 110, 117, 108, 108, 32, 108, 101, 115, 115, 32, 108, 111, 97, 100, 32, 109, 101, 109, 98, 101, 114, 32, 109, 105, 110, 117, 115, 32, 109, 111, 100, 117, 108, 101, 32, 110, 101, 119, 32, 110, 117, 108, 108, 32, 111, 98, 106, 32, 112, 108, 117, 115, 32, 112, 116, 114, 32, 114, 101, 116, 117, 114, 110, 32, 115, 97, 109, 101, 32, 115, 116, 97, 116, 105, 99, 32, 115, 116, 111, 114, 101, 32, 115, 116, 114, 117, 99, 116, 32, 116, 105, 109, 101, 115, 32, 118, 97, 114, 32, 119, 104, 105, 108, 101] } : ByteArray) w (by decide +kernel) (fun j b hj => ha b (List.mem_of_getElem? hj)) h
  rw [hf, hl] at K
  have K1 := Lib.hid K
  clear K hf hl ha
  go_enter Tryd.func4, Tryd.ntmps4
  go_wp2_with fail
  refine K1.out.mono ?_
  rintro e w' ⟨rfl, rfl⟩
  go_wp2_with fail
  go_ret
  exact ⟨rfl, rfl⟩

theorem alloc_rd (w : World) : Rd (w.alloc (.cells (keysL.map encS).toArray 9)) (some ⟨w.heap.size, 0, none⟩) (keysL.map encS) := fun _ => by
  refine ⟨w.heap.size, 0, rfl, by simp, fun j hj => ?_⟩
  rw [Nat.zero_add, (Box.new w 9 _).cell j]
  simp [hj]

def WorksPost (w : World) (e : Ending) (w' : World) : Prop := e = .returned (.bool true) ∧ Below w.heap.size w w'

set_option maxRecDepth 100000 in
set_option maxHeartbeats 1000000 in
theorem law_keys (w : World) (s : ByteArray) (hs : s.size ≤ 4611686018427387904) (hm : MaxAt w) (ht : Tab w) : Calls Tryd.prog 3 #[.string s] w (WorksPost w) := by
  have hk32 : keysL.length = 32 := rfl
  have K1 := Lib.hid (pkeys_any w ht)
  have HT := Lib.hid ht
  have HM := Lib.hid hm
  clear hm ht
  go_enter Tryd.func3, Tryd.ntmps3
  go_wp2_with fail
  refine K1.out.mono ?_
  rintro e w1' ⟨rfl, rfl⟩
  obtain ⟨w1, hw1⟩ : ∃ w1, Hid (w1 = w.alloc (.cells (keysL.map encS).toArray 9)) := ⟨_, Lib.hid rfl⟩
  have b1 : Below w.heap.size w w1 := by rw [hw1.out]; exact (Below.refl _ w).alloc (Nat.le_refl _) _
  have hz1 : w1.heap.size = w.heap.size + 1 := by rw [hw1.out]; simp
  have hb1 : Box w1 w.heap.size 9 (keysL.map encS).toArray := by rw [hw1.out]; exact Box.new w _ _
  rw [← hw1.out]
  have K2 := Lib.hid (pkeys_any w1 (HT.out.below b1))
  have B1 := Lib.hid b1
  have HB1 := Lib.hid hb1
  clear b1 hb1
  go_wp2_with fail
  refine K2.out.mono ?_
  rintro e w2' ⟨rfl, rfl⟩
  obtain ⟨w2, hw2⟩ : ∃ w2, Hid (w2 = w1.alloc (.cells (keysL.map encS).toArray 9)) := ⟨_, Lib.hid rfl⟩
  have f12 : Fr [] w1 w2 := by rw [hw2.out]; exact (Fr.refl [] w1).alloc _
  have hrb : Rd w2 (some ⟨w1.heap.size, 0, none⟩) (keysL.map encS) := by rw [hw2.out]; exact alloc_rd w1
  have hbx : Box w2 w.heap.size 9 (keysL.map encS).toArray := HB1.out.kept f12 (by simp)
  have hz2 : w2.heap.size = w1.heap.size + 1 := by rw [hw2.out]; simp
  rw [← hw2.out]
  have F12 := Lib.hid f12
  have HRB := Lib.hid hrb
  have hbz : (keysL.map encS).toArray.size = 32 := rfl
  have H0 : Hid (∃ cs, Box w2 w.heap.size 9 cs ∧ cs.size = 32) := Lib.hid ⟨_, hbx, hbz⟩
  clear f12 hrb hbx hbz
  rw [hz1] at HRB
  have K3 := Lib.hid (fun w => keys_any w)
  have KS := Lib.hid (fun (w : World) (A B : Option Addr) (hA : Rd w A (keysL.map encS)) (hB : Rd w B (keysL.map encS)) => same_any w A B 32 32 keysL hA hB (by decide))
  rw [hk32] at KS
  go_wp2_with fail
  go_loopw [5] (fun i wr => ∃ k : Nat, k ≤ 32 ∧ i = .int .i64 (k : Int) ∧ Hid (Fr [w.heap.size] w2 wr) ∧ Hid (∃ cs, Box wr w.heap.size 9 cs ∧ cs.size = 32)) (fun i _ => 32 - (intOf i).toNat)
  case atStart => exact ⟨0, by omega, rfl, Lib.hid (Fr.refl _ _), H0⟩
  case round =>
    obtain ⟨k, hk, rfl, hf, hb⟩ := hrel
    rename_i wr
    by_cases hkl : k < 32
    · have e1 : decide ((k : Int) < 32) = true := decide_eq_true (by omega)
      obtain ⟨cs, hcs, hcz⟩ := hb.out
      have ck : wr.cell? ⟨w.heap.size, k, none⟩ = some (cs[k]'(by omega)) := (hcs.cell k).trans (Array.getElem?_eq_getElem (by omega))
      have fk : wr.frozen? ⟨w.heap.size, k, none⟩ = false := hcs.free k
      have HF2 : Hid (Fr [w.heap.size] w2 (wr.setCell ⟨w.heap.size, k, none⟩ (.string ⟨#[]⟩))) := Lib.hid (hf.out.setCell (p := ⟨w.heap.size, k, none⟩) (Or.inl (by simp)) _)
      have HB2 : Hid (∃ cs, Box (wr.setCell ⟨w.heap.size, k, none⟩ (.string ⟨#[]⟩)) w.heap.size 9 cs ∧ cs.size = 32) := Lib.hid ⟨_, hcs.put k _, by simpa using hcz⟩
      clear hf hb hcs
      go_wp2_with fail
      go_roundw
      case rel => exact ⟨k + 1, by omega, by go_num, HF2, HB2⟩
      case measure => simp [intOf]; omega
    · obtain rfl : k = 32 := by omega
      have e1 : decide (((32 : Nat) : Int) < 32) = false := by decide
      have hwr : Below w.heap.size w wr := (B1.out.trans ((F12.out.all).mono (by omega))).trans (hf.out.below (by simp) (by omega))
      have hzr : w2.heap.size ≤ wr.heap.size := hf.out.size
      have hrbr : Rd wr (some ⟨w.heap.size + 1, 0, none⟩) (keysL.map encS) := HRB.out.kept hf.out (by simp [blk])
      have BR := Lib.hid hwr
      have RR := Lib.hid hrbr
      have HTr := Lib.hid (HT.out.below hwr)
      have HMr := Lib.hid (HM.out.below hwr)
      clear hf hb hwr hrbr H0 HRB F12 B1 HB1 K1 K2 HT HM
      go_wp2_with fail
      refine (K3.out wr).mono ?_
      rintro e w3' ⟨rfl, rfl⟩
      obtain ⟨w3, hw3⟩ : ∃ w3, Hid (w3 = wr.alloc (.cells (keysL.map encS).toArray 9)) := ⟨_, Lib.hid rfl⟩
      rw [← hw3.out]
      have b3 : Below wr.heap.size wr w3 := by rw [hw3.out]; exact (Below.refl _ wr).alloc (Nat.le_refl _) _
      have rk3 : Rd w3 (some ⟨wr.heap.size, 0, none⟩) (keysL.map encS) := by rw [hw3.out]; exact alloc_rd wr
      have KS1 := Lib.hid (KS.out w3 _ _ (RR.out.below b3) rk3)
      have B3 := Lib.hid (BR.out.trans (b3.mono BR.out.size))
      have HT3 := Lib.hid (HTr.out.below b3)
      have HM3 := Lib.hid (HMr.out.below b3)
      clear b3 rk3 RR
      go_wp2_with fail
      refine KS1.out.mono ?_
      rintro e w4 ⟨rfl, b4⟩
      have B4 := Lib.hid (B3.out.trans (b4.mono B3.out.size))
      have HT4 := Lib.hid (HT3.out.below b4)
      have HM4 := Lib.hid (HM3.out.below b4)
      clear b4 KS1
      go_wp2_with fail
      refine (pkeys_any w4 HT4.out).mono ?_
      rintro e w5' ⟨rfl, rfl⟩
      obtain ⟨w5, hw5⟩ : ∃ w5, Hid (w5 = w4.alloc (.cells (keysL.map encS).toArray 9)) := ⟨_, Lib.hid rfl⟩
      rw [← hw5.out]
      have b5 : Below w4.heap.size w4 w5 := by rw [hw5.out]; exact (Below.refl _ w4).alloc (Nat.le_refl _) _
      have R5 : Hid (Rd w5 (some ⟨w4.heap.size, 0, none⟩) (keysL.map encS)) := Lib.hid (by rw [hw5.out]; exact alloc_rd w4)
      have B5 := Lib.hid (B4.out.trans (b5.mono B4.out.size))
      have HM5 := Lib.hid (HM4.out.below b5)
      clear b5
      go_wp2_with fail
      refine (K3.out w5).mono ?_
      rintro e w6' ⟨rfl, rfl⟩
      obtain ⟨w6, hw6⟩ : ∃ w6, Hid (w6 = w5.alloc (.cells (keysL.map encS).toArray 9)) := ⟨_, Lib.hid rfl⟩
      rw [← hw6.out]
      have b6 : Below w5.heap.size w5 w6 := by rw [hw6.out]; exact (Below.refl _ w5).alloc (Nat.le_refl _) _
      have rk6 : Rd w6 (some ⟨w5.heap.size, 0, none⟩) (keysL.map encS) := by rw [hw6.out]; exact alloc_rd w5
      have KS2 := Lib.hid (KS.out w6 _ _ (R5.out.below b6) rk6)
      have B6 := Lib.hid (B5.out.trans (b6.mono B5.out.size))
      have HM6 := Lib.hid (HM5.out.below b6)
      clear b6 rk6 R5
      go_wp2_with fail
      refine KS2.out.mono ?_
      rintro e w7 ⟨rfl, b7⟩
      have B7 := Lib.hid (B6.out.trans (b7.mono B6.out.size))
      have HM7 := Lib.hid (HM6.out.below b7)
      clear b7 KS2
      have KI := Lib.hid (iskey_any w7 s hs HM7.out)
      have KR := Lib.hid (tkey_any w7 s.data.toList)
      rw [ba_eq] at KR
      generalize keyB s.data.toList = kq at *
      have ek : (kq == kq) = true := by simp
      go_wp2_with fail
      refine KI.out.mono ?_
      rintro e w8 ⟨rfl, rfl⟩
      go_wp2_with fail
      refine KR.out.mono ?_
      rintro e w9 ⟨rfl, b9⟩
      have B9 := Lib.hid (B7.out.trans (b9.mono B7.out.size))
      clear b9
      go_wp2_with fail
      go_ret
      exact ⟨rfl, B9.out⟩
end Go.Proofs.YtehieiddelngfaaDoor.ky
