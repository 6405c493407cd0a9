/-
  forest: a forest in memory; has, Parts, Find.
-/
import Derived.Test.YtenohenkedofkaaMem
import Derived.Test.YtenohenkedofkaaFo
import Derived.Outline
namespace Go.Proofs.Ytenohenkedofkaa.fo
open Go.RowKit Go.Proofs.Ytenohenkedofkaa.mem

def natv (xs : List Nat) : Array Value := (xs.map fun (x : Nat) => Value.int .i64 (x : Int)).toArray
theorem natv_at (xs : List Nat) (i : Nat) (h : i < xs.length) : (natv xs)[i]? = some (.int .i64 (xs.getD i 0 : Nat)) := by
  unfold natv
  rw [List.getElem?_toArray, List.getElem?_map, List.getElem?_eq_getElem h]
  simp [h]
theorem natv_set (xs : List Nat) (i k : Nat) : (natv xs).setIfInBounds i (.int .i64 (k : Int)) = natv (xs.set i k) := by
  unfold natv
  rw [List.setIfInBounds_toArray, List.map_set]
theorem natv_size (xs : List Nat) : (natv xs).size = xs.length := by unfold natv; simp

/-- a forest in memory -/
structure FS (w : World) (f ga gn : Nat) (A N : List Nat) (p : Int) : Prop where
  box : Box w f 84 #[.slice (some ⟨ga, 0, none⟩) A.length A.length, .slice (some ⟨gn, 0, none⟩) A.length A.length, .int .i64 p]
  ab : Box w ga 3 (natv A)
  nx : Box w gn 3 (natv N)
  len : N.length = A.length
  ne : ga ≠ gn

theorem FS.nf {w : World} {f ga gn : Nat} {A N : List Nat} {p : Int} (h : FS w f ga gn A N p) : f ≠ ga ∧ f ≠ gn := by
  constructor
  · rintro rfl
    have := h.box.symm.trans h.ab
    simp at this
  · rintro rfl
    have := h.box.symm.trans h.nx
    simp at this

theorem FS.kept {F : List Nat} {w w' : World} {f ga gn : Nat} {A N : List Nat} {p : Int} (h : FS w f ga gn A N p) (hf : Fr F w w') (h1 : f ∉ F) (h2 : ga ∉ F) (h3 : gn ∉ F) : FS w' f ga gn A N p :=
  ⟨h.box.kept hf h1, h.ab.kept hf h2, h.nx.kept hf h3, h.len, h.ne⟩

theorem FS.below {w w' : World} {f ga gn : Nat} {A N : List Nat} {p : Int} (h : FS w f ga gn A N p) (hb : Below w.heap.size w w') : FS w' f ga gn A N p := h.kept (Fr.of_below hb []) (by simp) (by simp) (by simp)

theorem FS.setA {w : World} {f ga gn : Nat} {A N : List Nat} {p : Int} (h : FS w f ga gn A N p) (i k : Nat) : FS (w.setCell ⟨ga, i, none⟩ (.int .i64 (k : Int))) f ga gn (A.set i k) N p := by
  have hn := h.nf
  have hf : Fr [ga] w (w.setCell ⟨ga, i, none⟩ (.int .i64 (k : Int))) := (Fr.refl [ga] w).setCell (Or.inl (by simp)) _
  refine ⟨?_, ?_, h.nx.kept hf (by simp; exact fun e => h.ne e.symm), by rw [h.len, List.length_set], h.ne⟩
  · rw [List.length_set]; exact h.box.kept hf (by simp; exact hn.1)
  · rw [← natv_set]; exact h.ab.put i _

theorem FS.drew {w : World} {f ga gn : Nat} {A N : List Nat} {p : Int} (h : FS w f ga gn A N p) : FS w.drew f ga gn A N p := ⟨h.box, h.ab, h.nx, h.len, h.ne⟩
theorem FS.c0 {w : World} {f ga gn : Nat} {A N : List Nat} {p : Int} (h : FS w f ga gn A N p) : w.cell? ⟨f, 0, none⟩ = some (.slice (some ⟨ga, 0, none⟩) A.length A.length) := h.box.cell 0
theorem FS.c1 {w : World} {f ga gn : Nat} {A N : List Nat} {p : Int} (h : FS w f ga gn A N p) : w.cell? ⟨f, 1, none⟩ = some (.slice (some ⟨gn, 0, none⟩) A.length A.length) := h.box.cell 1
theorem FS.atA {w : World} {f ga gn : Nat} {A N : List Nat} {p : Int} (h : FS w f ga gn A N p) (i : Nat) (hi : i < A.length) : w.cell? ⟨ga, i, none⟩ = some (.int .i64 (A.getD i 0 : Nat)) := by rw [h.ab.cell, natv_at _ _ hi]
theorem FS.atN {w : World} {f ga gn : Nat} {A N : List Nat} {p : Int} (h : FS w f ga gn A N p) (i : Nat) (hi : i < A.length) : w.cell? ⟨gn, i, none⟩ = some (.int .i64 (N.getD i 0 : Nat)) := by rw [h.nx.cell, natv_at _ _ (by rw [h.len]; exact hi)]

theorem has_nil (w : World) (n : Int) : Calls Try.prog 46 #[.pointer none, .int .i64 n] w fun e w' => e = .returned (.bool false) ∧ w = w' := by
  go_enter Try.func46, Try.ntmps46
  go_wp2_with fail
  go_ret
  exact ⟨rfl, rfl⟩

def inB (n : Int) (len : Nat) : Bool := decide (0 ≤ n) && decide (n < (len : Int))

set_option maxRecDepth 100000 in
theorem has_any (w : World) (f ga gn : Nat) (A N : List Nat) (p n : Int) (h : FS w f ga gn A N p) : Calls Try.prog 46 #[.pointer (some ⟨f, 0, none⟩), .int .i64 n] w fun e w' => e = .returned (.bool (inB n A.length)) ∧ w = w' := by
  have c0 : w.cell? ⟨f, 0, none⟩ = some (.slice (some ⟨ga, 0, none⟩) A.length A.length) := h.box.cell 0
  clear h
  unfold inB
  by_cases h0 : 0 ≤ n
  · have d0 : decide (0 ≤ n) = true := decide_eq_true h0
    rw [d0]
    generalize hb : decide (n < (A.length : Int)) = b
    go_enter Try.func46, Try.ntmps46
    go_wp2_with fail
    go_ret
    exact ⟨rfl, rfl⟩
  · have d0 : decide (0 ≤ n) = false := decide_eq_false h0
    rw [d0]
    go_enter Try.func46, Try.ntmps46
    go_wp2_with fail
    go_ret
    exact ⟨rfl, rfl⟩

theorem parts_nil (w : World) : Calls Try.prog 16 #[.pointer none] w fun e w' => e = .returned (.int .i64 0) ∧ w = w' := by
  go_enter Try.func16, Try.ntmps16
  go_wp2_with fail
  go_ret
  exact ⟨rfl, rfl⟩

theorem parts_any (w : World) (f ga gn : Nat) (A N : List Nat) (p : Int) (h : FS w f ga gn A N p) : Calls Try.prog 16 #[.pointer (some ⟨f, 0, none⟩)] w fun e w' => e = .returned (.int .i64 p) ∧ w = w' := by
  have c2 : w.cell? ⟨f, 2, none⟩ = some (.int .i64 p) := h.box.cell 2
  clear h
  go_enter Try.func16, Try.ntmps16
  go_wp2_with fail
  go_ret
  exact ⟨rfl, rfl⟩

theorem find_nil (w : World) (n : Int) : Calls Try.prog 18 #[.pointer none, .int .i64 n] w fun e w' => e = .returned (.int .i64 (-1)) ∧ w = w' := by
  have Hh := Lib.hid (fun w => has_nil w n)
  go_enter Try.func18, Try.ntmps18
  go_wp2_with fail
  refine (Hh.out _).mono ?_
  rintro e w' ⟨rfl, rfl⟩
  go_wp2_with fail
  go_ret
  exact ⟨rfl, rfl⟩

theorem find_out (w : World) (f ga gn : Nat) (A N : List Nat) (p n : Int) (h : FS w f ga gn A N p) (hn : inB n A.length = false) : Calls Try.prog 18 #[.pointer (some ⟨f, 0, none⟩), .int .i64 n] w fun e w' => e = .returned (.int .i64 (-1)) ∧ w = w' := by
  have Hh := Lib.hid (has_any w f ga gn A N p n h)
  rw [hn] at Hh
  clear h hn
  go_enter Try.func18, Try.ntmps18
  go_wp2_with fail
  refine Hh.out.mono ?_
  rintro e w' ⟨rfl, rfl⟩
  go_wp2_with fail
  go_ret
  exact ⟨rfl, rfl⟩

set_option maxRecDepth 100000 in
set_option maxHeartbeats 1000000 in
theorem find_in (w : World) (f ga gn : Nat) (A N F : List Nat) (p : Int) (n : Nat) (h : FS w f ga gn A N p) (hi : Inv A F) (hn : n < A.length) (hl : A.length ≤ 100000) :
    Calls Try.prog 18 #[.pointer (some ⟨f, 0, none⟩), .int .i64 n] w fun e w' => e = .returned (.int .i64 (F.getD n 0 : Nat)) ∧ Fr [ga] w w' ∧ ∃ A', A'.length = A.length ∧ Inv A' F ∧ FS w' f ga gn A' N p := by
  have Hh := Lib.hid (has_any w f ga gn A N p n h)
  rw [show inB (n : Int) A.length = true from by unfold inB; simp; omega] at Hh
  have hS := Lib.hid h
  have hI := Lib.hid hi
  have hlF : Hid (A.length = F.length) := Lib.hid hi.len
  clear h hi
  go_enter Try.func18, Try.ntmps18
  go_wp2_with fail
  refine Hh.out.mono ?_
  rintro e w' ⟨rfl, rfl⟩
  go_wp2_with fail
  go_loopw [5] (fun m wr => wr = w ∧ ∃ k : Nat, k < A.length ∧ m = .int .i64 k ∧ Hid (F.getD k 0 = F.getD n 0)) (fun m _ => (intOf m).toNat)
  case atStart => exact ⟨rfl, n, hn, rfl, Lib.hid rfl⟩
  case round =>
    obtain ⟨hwr, k, hk, rfl, hf⟩ := hrel
    subst hwr
    have c0 := hS.out.c0
    have ak := hS.out.atA k hk
    have hle := hI.out.le k (by have := hlF.out; omega)
    have hsame := Lib.hid (hI.out.same k (by have := hlF.out; omega))
    have hroot := Lib.hid (hI.out.root k (by have := hlF.out; omega))
    generalize A.getD k 0 = x at *
    by_cases hx : x = k
    · subst hx
      have hr : Hid (F.getD n 0 = x) := Lib.hid (by rw [← hf.out, hroot.out rfl])
      have hd : (((x : Nat) : Int) != (x : Int)) = false := by simp
      clear hsame hroot hle hf
      go_wp2_with fail
      clear ak c0 hd
      go_loopw [1] (fun m wq => ∃ (i : Nat) (A' : List Nat), i < A.length ∧ m = .int .i64 i ∧ A'.length = A.length ∧ Hid (F.getD i 0 = x) ∧ Hid (Inv A' F) ∧ Hid (FS wq f ga gn A' N p) ∧ Hid (Fr [ga] wr wq)) (fun m _ => (intOf m).toNat)
      case atStart => exact ⟨n, A, hn, rfl, rfl, hr, hI, hS, Lib.hid (Fr.refl _ _)⟩
      case round =>
        obtain ⟨i, A', hi, rfl, hl', hfi, hI', hS', hF'⟩ := hrel
        rename_i wq _
        have c0 := hS'.out.c0
        rw [hl'] at c0
        have ai := hS'.out.atA i (by omega)
        have fr := hS'.out.ab.free i
        have hle := hI'.out.le i (by have := hlF.out; omega)
        have hsame := Lib.hid (hI'.out.same i (by have := hlF.out; omega))
        have hroot := Lib.hid (hI'.out.root i (by have := hlF.out; omega))
        generalize A'.getD i 0 = y at *
        by_cases hy : y = x
        · subst hy
          have hd : (((y : Nat) : Int) != (y : Int)) = false := by simp
          go_wp2_with fail
          go_ret
          exact ⟨by rw [hr.out]; rfl, hF'.out, A', hl', hI'.out, hS'.out⟩
        · have hd : (((y : Nat) : Int) != (x : Int)) = true := by simp; omega
          have hlt : y < i := by
            rcases Nat.lt_or_ge y i with g | g
            · exact g
            · have e : y = i := by omega
              have := hroot.out e
              rw [hfi.out] at this
              omega
          go_wp2_with fail
          go_region
          go_wp2_with fail
          go_roundw
          case rel => exact ⟨y, A'.set i x, by omega, rfl, by rw [List.length_set, hl'], Lib.hid (by rw [hsame.out, hfi.out]), Lib.hid (hI'.out.compress i x (by have := hlF.out; omega) hfi.out), Lib.hid (hS'.out.setA i x).drew, Lib.hid (hF'.out.setCell (p := ⟨ga, i, none⟩) (Or.inl (by simp)) _).drew⟩
          case measure => simp [intOf]; omega
    · have hd : (((x : Nat) : Int) != (k : Int)) = true := by simp; omega
      go_wp2_with fail
      go_roundw
      case rel => exact ⟨trivial, x, by omega, rfl, Lib.hid (by rw [hsame.out, hf.out])⟩
      case measure => simp [intOf]; omega
end Go.Proofs.Ytenohenkedofkaa.fo
