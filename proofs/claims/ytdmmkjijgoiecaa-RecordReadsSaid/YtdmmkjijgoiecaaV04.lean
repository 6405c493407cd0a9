import Derived.Test.YtdmmkjijgoiecaaV01
import Derived.Deep.RegionHeld3
/-
  varint: the reference's Writer.
-/
set_option linter.all false
namespace Go.Proofs.Ytdmmkjijgoiecaa.vr
open Go.RowKit Go.Proofs.Ytdmmkjijgoiecaa.mem

def putN (st : List UInt8 × Int) (n : Int) : List UInt8 × Int := if st.2 ≠ 0 then st else if n < 0 ∨ 268435456 < n then (st.1, 2) else (st.1 ++ nb n.toNat, 0)
def putT (st : List UInt8 × Int) (s : ByteArray) : List UInt8 × Int := if st.2 ≠ 0 then st else if 200000 < (s.size : Int) then (st.1, 9) else (st.1 ++ (nb s.size ++ s.data.toList), 0)
def doneS (st : List UInt8 × Int) : List UInt8 := if st.2 ≠ 0 then [] else st.1

theorem app_str (S T : List UInt8) : bs S ++ bs T = bs (S ++ T) := bs_app S T

end Go.Proofs.Ytdmmkjijgoiecaa.vr

/-
  varint: the Reader.
-/
set_option linter.all false
namespace Go.Proofs.Ytdmmkjijgoiecaa.vr
open Go.RowKit Go.Proofs.Ytdmmkjijgoiecaa.mem

theorem cntF_spec : ∀ (l : List UInt8) (i n : Nat), ((cntF i n l).2.2 = 0 → (cntF i n l).2.1 ≤ i + l.length ∧ (cntF i n l).1 ≤ 268435456) ∧ ((cntF i n l).2.2 ≠ 0 → (cntF i n l).1 = 0 ∧ (cntF i n l).2.1 = 0)
  | [], i, n => by simp [cntF]
  | b :: r, i, n => by
    unfold cntF
    split
    · simp
    · split
      · simp
      · split
        · simp; omega
        · split
          · simp
          · have := cntF_spec r (i + 1) (n + b.toNat % 128 * 2 ^ (7 * i))
            refine ⟨fun h => ?_, this.2⟩
            have h1 := this.1 h
            simp only [List.length_cons]
            omega

/-- the count at a place -/
def ct (s : ByteArray) (p : Nat) : Nat × Nat × Nat := cnt (s.data.toList.drop p)
theorem ct_ok (s : ByteArray) (p : Nat) (hp : p ≤ s.size) (h : (ct s p).2.2 = 0) : p + (ct s p).2.1 ≤ s.size ∧ (ct s p).1 ≤ 268435456 := by
  have := (cntF_spec (s.data.toList.drop p) 0 0).1 h
  rw [List.length_drop, list_size] at this
  unfold ct cnt
  omega
theorem ct_bad (s : ByteArray) (p : Nat) (h : (ct s p).2.2 ≠ 0) : (ct s p).1 = 0 ∧ (ct s p).2.1 = 0 := (cntF_spec (s.data.toList.drop p) 0 0).2 h
theorem ct_le (s : ByteArray) (p : Nat) (hp : p ≤ s.size) : p + (ct s p).2.1 ≤ s.size := by
  by_cases h : (ct s p).2.2 = 0
  · exact (ct_ok s p hp h).1
  · rw [(ct_bad s p h).2]; exact hp

theorem extract_drop (s : ByteArray) (p : Nat) : (s.extract p s.size).data.toList = s.data.toList.drop p := by
  rw [ByteArray.data_extract, Array.toList_extract]
  rw [List.extract_eq_take_drop]
  rw [List.take_of_length_le]
  rw [List.length_drop, list_size]
  omega

/-- a reader in memory -/
structure RD (w : World) (r : Nat) (s : ByteArray) (p : Nat) (e : Int) : Prop where
  box : Box w r 118 #[.string s, .int .i64 (p : Int), .int .i64 e]

theorem RD.setP {w : World} {r : Nat} {s : ByteArray} {p : Nat} {e : Int} (h : RD w r s p e) (q : Nat) : RD (w.setCell ⟨r, 1, none⟩ (.int .i64 (q : Int))) r s q e := ⟨h.box.put 1 _⟩
theorem RD.setE {w : World} {r : Nat} {s : ByteArray} {p : Nat} {e : Int} (h : RD w r s p e) (d : Int) : RD (w.setCell ⟨r, 2, none⟩ (.int .i64 d)) r s p d := ⟨h.box.put 2 _⟩
theorem RD.drew {w : World} {r : Nat} {s : ByteArray} {p : Nat} {e : Int} (h : RD w r s p e) : RD w.drew r s p e := ⟨h.box⟩

/-- what taking a count makes -/
def nV (s : ByteArray) (p : Nat) (e : Int) : Nat := if e ≠ 0 then 0 else (ct s p).1
def nP (s : ByteArray) (p : Nat) (e : Int) : Nat := if e ≠ 0 then p else p + (ct s p).2.1
def nE (s : ByteArray) (p : Nat) (e : Int) : Int := if e ≠ 0 then e else ((ct s p).2.2 : Nat)

def DPost (w : World) (r : Nat) (s : ByteArray) (v : Value) (p : Nat) (er : Int) (e : Ending) (w' : World) : Prop := e = .returned v ∧ RD w' r s p er ∧ Fr [r] w w'

set_option maxRecDepth 100000 in
theorem rd_number (w : World) (r : Nat) (s : ByteArray) (p : Nat) (er : Int) (h : RD w r s p er) (hs : s.size ≤ maxLen) (hp : p ≤ s.size) :
    Calls Try.prog 57 #[.pointer (some ⟨r, 0, none⟩)] w (DPost w r s (.int .i64 (nV s p er)) (nP s p er) (nE s p er)) := by
  have c0 : w.cell? ⟨r, 0, none⟩ = some (.string s) := h.box.cell 0
  have c1 : w.cell? ⟨r, 1, none⟩ = some (.int .i64 (p : Int)) := h.box.cell 1
  have c2 : w.cell? ⟨r, 2, none⟩ = some (.int .i64 er) := h.box.cell 2
  have H := Lib.hid h
  clear h
  by_cases hE : er = 0
  · subst hE
    have e1 : nV s p 0 = (ct s p).1 := if_neg (by simp)
    have e2 : nP s p 0 = p + (ct s p).2.1 := if_neg (by simp)
    have e3 : nE s p 0 = ((ct s p).2.2 : Nat) := if_neg (by simp)
    rw [e1, e2, e3]
    clear e1 e2 e3
    have hle := ct_le s p hp
    have K := Lib.hid (fun w' => count_any (s.extract p s.size) w' (by simp; omega))
    rw [extract_drop] at K
    have K : Hid (∀ w', Calls Try.prog 73 #[.string (s.extract p s.size)] w' fun e w'' => e = .returned (.tuple #[.int .i64 (ct s p).1, .int .i64 (ct s p).2.1, .int .i64 (ct s p).2.2]) ∧ w' = w'') := K
    generalize (ct s p).1 = a at *
    generalize (ct s p).2.1 = b at *
    generalize (ct s p).2.2 = c at *
    have hS := Lib.hid ((H.out.drew.setE (c : Int)).setP (p + b))
    have hF := Lib.hid (((Fr.refl [r] w).drew.setCell (p := ⟨r, 2, none⟩) (Or.inl (by simp)) (.int .i64 (c : Int))).setCell (p := ⟨r, 1, none⟩) (Or.inl (by simp)) (.int .i64 ((p + b : Nat) : Int)))
    have f1 := H.out.box.free 1
    have f2 := H.out.box.free 2
    unfold maxLen at hs
    clear H
    go_enter Try.func57, Try.ntmps57
    go_wp2_with fail
    go_region_held3 (fun w' => w'.cell? ⟨r, 0, none⟩ = some (.string s) ∧ w'.cell? ⟨r, 1, none⟩ = some (.int .i64 (p : Int)))
      (first | exact ⟨c0, c1⟩ | go_keep)
      ((go_at_call 73; refine (K.out _).mono ?_; rintro e w2 ⟨rfl, rfl⟩))
    go_wp2_with fail
    go_ret
    exact ⟨rfl, hS.out, hF.out⟩
  · have e1 : nV s p er = 0 := if_pos hE
    have e2 : nP s p er = p := if_pos hE
    have e3 : nE s p er = er := if_pos hE
    rw [e1, e2, e3]
    have d0 : (er != 0) = true := by simp; exact hE
    clear e1 e2 e3 hp hs
    go_enter Try.func57, Try.ntmps57
    go_wp2_with fail
    go_ret
    exact ⟨rfl, H.out, Fr.refl _ _⟩

theorem rd_new (s : ByteArray) (w : World) : Calls Try.prog 26 #[.string s] w fun e w' => e = .returned (.pointer (some ⟨w.heap.size, 0, none⟩)) ∧ w' = w.alloc (.cells #[.string s, .int .i64 0, .int .i64 0] 118) := by
  go_enter Try.func26, Try.ntmps26
  go_wp2_with fail
  go_ret
  exact ⟨rfl, rfl⟩

def fE (er d : Int) : Int := if er = 0 then d else er

set_option maxRecDepth 100000 in
theorem rd_fail (w : World) (r : Nat) (s : ByteArray) (p : Nat) (er d : Int) (h : RD w r s p er) :
    Calls Try.prog 59 #[.pointer (some ⟨r, 0, none⟩), .int .i64 d] w (DPost w r s (.tuple #[]) p (fE er d)) := by
  have c2 : w.cell? ⟨r, 2, none⟩ = some (.int .i64 er) := h.box.cell 2
  have f2 := h.box.free 2
  have H := Lib.hid h
  clear h
  by_cases hE : er = 0
  · subst hE
    have e1 : fE 0 d = d := if_pos rfl
    rw [e1]
    have hS := Lib.hid (H.out.setE d)
    have hF := Lib.hid ((Fr.refl [r] w).setCell (p := ⟨r, 2, none⟩) (Or.inl (by simp)) (.int .i64 d))
    clear e1
    go_enter Try.func59, Try.ntmps59
    go_wp2_with fail
    go_end0
    exact ⟨rfl, hS.out, hF.out⟩
  · have e1 : fE er d = er := if_neg hE
    rw [e1]
    have d0 : (er == 0) = false := by simp; exact hE
    clear e1 f2
    go_enter Try.func59, Try.ntmps59
    go_wp2_with fail
    go_end0
    exact ⟨rfl, H.out, Fr.refl _ _⟩

def dE (s : ByteArray) (p : Nat) (er : Int) : Int := if er = 0 ∧ p < s.size then 6 else er

set_option maxRecDepth 100000 in
theorem rd_done (w : World) (r : Nat) (s : ByteArray) (p : Nat) (er : Int) (h : RD w r s p er) :
    Calls Try.prog 35 #[.pointer (some ⟨r, 0, none⟩)] w (DPost w r s (.tuple #[.int .i64 (p : Int), .int .i64 (dE s p er)]) p er) := by
  have c0 : w.cell? ⟨r, 0, none⟩ = some (.string s) := h.box.cell 0
  have c1 : w.cell? ⟨r, 1, none⟩ = some (.int .i64 (p : Int)) := h.box.cell 1
  have c2 : w.cell? ⟨r, 2, none⟩ = some (.int .i64 er) := h.box.cell 2
  have H := Lib.hid h
  clear h
  by_cases hE : er = 0
  · subst hE
    by_cases hp : p < s.size
    · have e1 : dE s p 0 = 6 := if_pos ⟨rfl, hp⟩
      rw [e1]
      have d1 : decide ((p : Int) < (s.size : Int)) = true := decide_eq_true (by omega)
      clear e1
      go_enter Try.func35, Try.ntmps35
      go_wp2_with fail
      go_region
      go_wp2_with fail
      go_ret2
      exact ⟨rfl, H.out.drew, (Fr.refl _ _).drew⟩
    · have e1 : dE s p 0 = 0 := if_neg (by omega)
      rw [e1]
      have d1 : decide ((p : Int) < (s.size : Int)) = false := decide_eq_false (by omega)
      clear e1
      go_enter Try.func35, Try.ntmps35
      go_wp2_with fail
      go_region
      go_wp2_with fail
      go_region
      go_wp2_with fail
      go_ret2
      exact ⟨rfl, H.out.drew.drew, (Fr.refl _ _).drew.drew⟩
  · have e1 : dE s p er = er := if_neg (fun h => hE h.1)
    rw [e1]
    have d0 : (er == 0) = false := by simp; exact hE
    clear e1
    go_enter Try.func35, Try.ntmps35
    go_wp2_with fail
    go_region
    go_wp2_with fail
    go_region
    go_wp2_with fail
    go_ret2
    exact ⟨rfl, H.out.drew.drew, (Fr.refl _ _).drew.drew⟩
end Go.Proofs.Ytdmmkjijgoiecaa.vr

/-
  varint: the Reader's Text.
-/
set_option linter.all false
namespace Go.Proofs.Ytdmmkjijgoiecaa.vr
open Go.RowKit Go.Proofs.Ytdmmkjijgoiecaa.mem

/-- what taking a text makes -/
def tx (s : ByteArray) (p : Nat) (e : Int) : ByteArray × Nat × Int :=
  if e ≠ 0 then (⟨#[]⟩, p, e)
  else if (ct s p).2.2 ≠ 0 then (⟨#[]⟩, p, ((ct s p).2.2 : Nat))
  else if s.size - (p + (ct s p).2.1) < (ct s p).1 then (⟨#[]⟩, p, 1)
  else (s.extract (p + (ct s p).2.1) (p + (ct s p).2.1 + (ct s p).1), p + (ct s p).2.1 + (ct s p).1, 0)

theorem extract_two (s : ByteArray) (q n : Nat) (h : q + n ≤ s.size) : (s.extract q s.size).extract 0 n = s.extract q (q + n) := by
  rw [ByteArray.extract_extract]
  congr 1
  omega

theorem extract_size (s : ByteArray) (q : Nat) (_h : q ≤ s.size) : (s.extract q s.size).size = s.size - q := by
  rw [ByteArray.size_extract]; omega

end Go.Proofs.Ytdmmkjijgoiecaa.vr
