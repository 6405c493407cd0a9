import Derived.Test.YtdmmkjijgoiecaaW5
import Derived.Test.YtdmmkjijgoiecaaWReR
set_option linter.all false
/-
  record: works.
-/
namespace Go.Proofs.Ytdmmkjijgoiecaa.re
open Go.RowKit Go.Sort Go.Shelf Go.Proofs.Ytdmmkjijgoiecaa.mem Go.Proofs.Ytdmmkjijgoiecaa.sy Go.Proofs.Ytdmmkjijgoiecaa.vr Go.Proofs.Ytdmmkjijgoiecaa.po Go.Proofs.Ytdmmkjijgoiecaa.inn

def suA : SU := ⟨⟨#[97]⟩, [], [], [], ⟨[], [], []⟩⟩
def muA : MU := ⟨⟨#[97]⟩, none, 0, [], none, 0, [], none, 0, [], ⟨none, 0, [], none, 0, [], none, 0, []⟩⟩
def s7 : ByteArray := ⟨#[0, 0, 0, 0, 0, 0, 0]⟩
theorem wk_m : rsS [[97]] = [[97]] := by kernel_rfl
theorem wk_f : foldE [[97]] (evSU suA) = ([0, 0, 0, 0, 0, 0, 0], 0) := by kernel_rfl
theorem wk_s : bs (doneS (([0, 0, 0, 0, 0, 0, 0], 0) : List UInt8 × Int)) = s7 := by kernel_rfl
theorem wk_e : rdE [[97]] s7 = 0 := by kernel_rfl
theorem wk_r : rdS [[97]] s7 = suA := by kernel_rfl
theorem sum_muA (w : World) : SumM w muA := ⟨fun h => by simp [muA] at h, fun h => by simp [muA] at h, fun h => by simp [muA] at h, ⟨fun h => by simp [muA] at h, fun h => by simp [muA] at h, fun h => by simp [muA] at h, by simp [muA], by simp [muA], by simp [muA], by simp [muA], by simp [muA], by simp [muA]⟩⟩

def WkP (w : World) (e : Ending) (w' : World) : Prop := e = .returned (.bool true) ∧ Below w.heap.size w w'

set_option maxRecDepth 100000 in
set_option maxHeartbeats 2000000 in
theorem works_any (w : World) : Calls Try.prog 15 #[] w (WkP w) := by
  obtain ⟨W, hWe⟩ : ∃ W, Hid (W = w.alloc (.cells #[.string ⟨#[97]⟩] 9)) := ⟨_, Lib.hid rfl⟩
  have b0 : Below w.heap.size w W := by rw [hWe.out]; exact (Below.refl _ _).alloc (Nat.le_refl _) _
  have B : Box W w.heap.size 9 #[.string ⟨#[97]⟩] := by rw [hWe.out]; exact Box.new _ _ _
  have rd : Rd W (some ⟨w.heap.size, 0, none⟩) ([[97]].map encStr) := fun _ => ⟨w.heap.size, 0, rfl, B.lt, fun j hj => by
    have : j = 0 := by simpa using hj
    subst this
    exact B.cell 0⟩
  have K1 := Lib.hid (pof_any W (some ⟨w.heap.size, 0, none⟩) 1 [[97]] rd (by decide))
  rw [wk_m] at K1
  have HBy : Hid (∀ (w2 : World) (pb : Nat) (pA : Option Addr) (pc : Nat), Pl w2 pb pA pc [[97]] → Calls Try.prog 10 #[.pointer (some ⟨pb, 0, none⟩), .agg #[.string ⟨#[97]⟩, .slice none 0 0, .slice none 0 0, .slice none 0 0, .slice none 0 0, .slice none 0 0, .slice none 0 0]] w2 (fun e w' => e = .returned (.tuple #[.string s7, .int .i64 0]) ∧ Below w2.heap.size w2 w')) := Lib.hid (fun w2 pb pA pc hp => by
    have h := bytes_any w2 pb pA pc [[97]] hp (by simp) (by decide) muA (sum_muA w2) (by show (evSU suA).length ≤ MX; unfold MX; decide)
    unfold RP at h
    rw [show muA.su = suA from rfl, wk_f, wk_s] at h
    exact h)
  have HRd : Hid (∀ (w2 : World) (pb : Nat) (pA : Option Addr) (pc : Nat), Pl w2 pb pA pc [[97]] → Calls Try.prog 16 #[.pointer (some ⟨pb, 0, none⟩), .string s7] w2 (RDP suA 0 w2)) := Lib.hid (fun w2 pb pA pc hp => by
    have h := read_any hp (by decide) (fun x hx => by simp at hx; subst hx; unfold maxLen; decide) (s := s7) (by unfold maxLen; decide)
    rw [wk_e, wk_r] at h
    exact h)
  have Be0 := Lib.hid b0
  unfold OfPost at K1
  unfold RDP at HRd
  unfold WkP
  clear b0 B rd
  generalize hs7 : s7 = z7 at *
  replace hs7 := Lib.hid hs7
  go_enter Try.func15, Try.ntmps15
  go_upto_region 1 with fail
  go_wp2_with fail
  rw [← hWe.out]
  refine K1.out.mono ?_
  rintro e w1 ⟨pb, pA, pc, rfl, p1, b1⟩
  have P1 := Lib.hid p1
  have B1 := Lib.hid (Be0.out.trans (b1.mono Be0.out.size))
  have K2 := Lib.hid (HBy.out w1 pb pA pc p1)
  clear p1 b1 K1 HBy hWe Be0
  go_wp2_with fail
  refine K2.out.mono ?_
  rintro e w2 ⟨rfl, b2⟩
  have P2 := Lib.hid (P1.out.below b2)
  have B2 := Lib.hid (B1.out.trans (b2.mono B1.out.size))
  have K3 := Lib.hid (HRd.out w2 pb pA pc P2.out)
  clear b2 K2 HRd P1
  go_wp2_with fail
  refine K3.out.mono ?_
  rintro e w3 ⟨u, rfl, hu, hsm, b3⟩
  have B3 := Lib.hid (B2.out.trans (b3.mono B2.out.size))
  have hn : Hid (u.name = ⟨#[97]⟩) := Lib.hid (congrArg SU.name hu)
  clear b3 K3 hu hsm P2 B1 B2
  unfold MU.val MU.row
  go_upto_region 4 with fail
  have Bx := Box.new w3 29 #[.string u.name, .slice u.gA u.gives.length u.gc, .slice u.wA u.wants.length u.wc, .slice u.kA u.keeps.length u.kc, .slice u.s.oA u.s.os.length u.s.oc, .slice u.s.fA u.s.fs.length u.s.fc, .slice u.s.cA u.s.cs.length u.s.cc]
  have B4 := Lib.hid (B3.out.alloc B3.out.size (.cells #[.string u.name, .slice u.gA u.gives.length u.gc, .slice u.wA u.wants.length u.wc, .slice u.kA u.keeps.length u.kc, .slice u.s.oA u.s.os.length u.s.oc, .slice u.s.fA u.s.fs.length u.s.fc, .slice u.s.cA u.s.cs.length u.s.cc] 29))
  have x0 := Bx.cell 0
  generalize w3.alloc (.cells #[.string u.name, .slice u.gA u.gives.length u.gc, .slice u.wA u.wants.length u.wc, .slice u.kA u.keeps.length u.kc, .slice u.s.oA u.s.os.length u.s.oc, .slice u.s.fA u.s.fs.length u.s.fc, .slice u.s.cA u.s.cs.length u.s.cc] 29) = wz at *
  have x0' : wz.cell? ⟨w3.heap.size, 0, none⟩ = some (.string ⟨#[97]⟩) := by rw [← hn.out]; exact x0
  clear x0 Bx hn B3
  rw [← hs7.out]
  unfold s7
  go_wp2_with fail
  go_ret
  exact ⟨rfl, B4.out⟩
end Go.Proofs.Ytdmmkjijgoiecaa.re
