/-
  intern: the law's own closure: a thing as it should be.
-/
import Derived.Test.YtehieiddelngfaaInH
namespace Go.Proofs.Ytehieiddelngfaa.ins
open Go.RowKit Go.Shelf Go.Proofs.Ytehieiddelngfaa.mem Go.Proofs.Ytehieiddelngfaa.inn

set_option maxRecDepth 100000 in
theorem told (w : World) (b2 b3 b4 b5 k c c5 : Nat) (A L : Option Addr) (ws xs : List (List UInt8)) (hk : k < ws.length) (hm : xs.length ≤ 1000) (hw : ws.length ≤ 1000)
    (h2 : Box w b2 4 #[.bool true]) (h3 : Box w b3 3 #[.int .i64 k]) (h4 : Box w b4 22 #[.slice A ws.length c]) (h5 : Box w b5 22 #[.slice L xs.length c5]) (hA : Rd w A (ws.map encStr)) (hL : Rd w L (xs.map encStr)) :
    Calls Try.prog 33 #[encStr ws[k], .int .i64 (numV xs ws[k]), .pointer (some ⟨b2, 0, none⟩), .pointer (some ⟨b3, 0, none⟩), .pointer (some ⟨b4, 0, none⟩), .pointer (some ⟨b5, 0, none⟩)] w fun e w' => e = .returned (.bool (decide ((k : Int) + 1 < 300))) ∧ w' = (w.setCell ⟨b2, 0, none⟩ (.bool true)).setCell ⟨b3, 0, none⟩ (.int .i64 ((k : Int) + 1)) := by
  have K := Lib.hid (number_any w L c5 xs ws[k] hL hm)
  obtain ⟨g, off, rfl, hlt, hc⟩ := rd_str hA (by omega)
  have ck := hc k hk
  have c2 : w.cell? ⟨b2, 0, none⟩ = some (.bool true) := h2.cell 0
  have c3 : w.cell? ⟨b3, 0, none⟩ = some (.int .i64 k) := h3.cell 0
  have c4 : w.cell? ⟨b4, 0, none⟩ = some (.slice (some ⟨g, off, none⟩) ws.length c) := h4.cell 0
  have c5' : w.cell? ⟨b5, 0, none⟩ = some (.slice L xs.length c5) := h5.cell 0
  have f2 : w.frozen? ⟨b2, 0, none⟩ = false := h2.free 0
  have f3 : w.frozen? ⟨b3, 0, none⟩ = false := h3.free 0
  have hne : b3 ≠ b2 := by
    rintro rfl
    unfold Box at h2 h3
    rw [h2] at h3
    simp at h3
  have fr : Fr [b2] w (w.setCell ⟨b2, 0, none⟩ (.bool true)) := (Fr.refl _ w).setCell (Or.inl (by simp)) _
  have hb3 : Box (w.setCell ⟨b2, 0, none⟩ (.bool true)) b3 3 #[.int .i64 k] := h3.kept fr (by simpa using hne)
  have c3' : (w.setCell ⟨b2, 0, none⟩ (.bool true)).cell? ⟨b3, 0, none⟩ = some (.int .i64 k) := hb3.cell 0
  have f3' : (w.setCell ⟨b2, 0, none⟩ (.bool true)).frozen? ⟨b3, 0, none⟩ = false := hb3.free 0
  have hb4 : Box ((w.setCell ⟨b2, 0, none⟩ (.bool true)).setCell ⟨b3, 0, none⟩ (.int .i64 ((k : Int) + 1))) b3 3 #[.int .i64 ((k : Int) + 1)] := hb3.put 0 _
  have c3'' : ((w.setCell ⟨b2, 0, none⟩ (.bool true)).setCell ⟨b3, 0, none⟩ (.int .i64 ((k : Int) + 1))).cell? ⟨b3, 0, none⟩ = some (.int .i64 ((k : Int) + 1)) := hb4.cell 0
  have e1 : decide ((k : Int) < (ws.length : Int)) = true := decide_eq_true (by omega)
  have e2 : (ws[k] == ws[k]) = true := by simp
  have hsum : IntKind.i64.wrap ((k : Int) + 1) = (k : Int) + 1 := IntWalk.i64_in _ (by omega)
  clear h2 h3 h4 h5 hA hL hc fr hb3 hb4
  generalize numV xs ws[k] = r at *
  generalize ws[k] = x at *
  unfold encStr at ck K ⊢
  generalize (ByteArray.mk x.toArray) = z at *
  have e3 : (z.toList == z.toList) = true := by simp
  have e4 : (r == r) = true := by simp
  go_enter Try.func33, Try.ntmps33
  go_wp2_with fail
  refine K.out.mono ?_
  rintro e w1 ⟨rfl, rfl⟩
  go_wp2_with fail
  go_ret
  exact ⟨rfl, rfl⟩
end Go.Proofs.Ytehieiddelngfaa.ins
