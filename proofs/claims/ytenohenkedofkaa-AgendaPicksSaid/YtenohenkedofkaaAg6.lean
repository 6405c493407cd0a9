/-
  agenda: the example of the statements; numbers come one by one.
-/
import Derived.Test.YtenohenkedofkaaAg5
namespace Go.Proofs.Ytenohenkedofkaa.ag
open Go.RowKit Go.Proofs.Ytenohenkedofkaa.mem

theorem on_fr {B : Nat} {w0 w w' : World} {F : List Nat} (h : Below B w0 w) (f : Fr F w w') (hF : ∀ g ∈ F, B ≤ g) (hB : B ≤ w.heap.size) : Below B w0 w' := h.trans (f.below hF hB)

theorem on_below {B : Nat} {w0 w w' : World} (h : Below B w0 w) (f : Below w.heap.size w w') (hB : B ≤ w.heap.size) : Below B w0 w' := h.trans (f.mono hB)

theorem ags_new (w : World) : ags.Ag (w.alloc (.cells #[.slice none 0 0, .map none] 62)) w.heap.size none 0 none 0 [] :=
  ⟨Box.new w _ _, Seg.nil _ _, Or.inl ⟨rfl, rfl⟩, by simp, by simp, Nat.le_refl _⟩

theorem ag_new (w : World) : Ag (w.alloc (.cells #[.slice none 0 0, .map none] 42)) w.heap.size none 0 none 0 [] :=
  ⟨Box.new w _ _, Seg.nil _ _, Or.inl ⟨rfl, rfl⟩, by simp, by simp, Nat.le_refl _⟩

def sa : ByteArray := ⟨#[97]⟩
def sb : ByteArray := ⟨#[98]⟩
def sc : ByteArray := ⟨#[99]⟩

/-- an agenda of texts, all of whose blocks are new since a world -/
def SA (B : Nat) (w0 w : World) (b N : Nat) (xs : List ByteArray) : Prop := ∃ A cap m, ags.Ag w b A cap m N xs ∧ Below B w0 w ∧ (∀ g ∈ ags.foot b A m, B ≤ g) ∧ B ≤ w.heap.size

theorem sa_put {B : Nat} {w0 w : World} {b N : Nat} {xs : List ByteArray} (h : SA B w0 w b N xs) (x : ByteArray) (hx : x.size ≤ maxLen) (hin : x ∉ xs) (hN : N < 1000000) :
    Calls Try.prog 35 #[.pointer (some ⟨b, 0, none⟩), .string x] w fun e w' => e = .returned (.bool true) ∧ SA B w0 w' b (N + 1) (xs ++ [x]) := by
  obtain ⟨A, cap, m, ha, hb, hf, hB⟩ := h
  refine (ags.put_any w b A cap m N xs x ha hx hin hN).mono ?_
  rintro e w' ⟨rfl, f, A', cap', m', ha', hf'⟩
  exact ⟨rfl, A', cap', m', ha', on_fr hb f hf hB, fun g hg => by rcases hf' g hg with h | h; exact hf g h; omega, Nat.le_trans hB f.size⟩

theorem sa_take {B : Nat} {w0 w : World} {b N : Nat} {xs : List ByteArray} (h : SA B w0 w b N xs) (n : Int) (hz : 0 < xs.length) (hN : N < 1000000) :
    Calls Try.prog 36 #[.pointer (some ⟨b, 0, none⟩), .int .i64 n] w fun e w' => e = .returned (.tuple #[.string (xs.getD (ags.pickN n xs.length) ByteArray.empty), .bool true]) ∧ SA B w0 w' b N (xs.eraseIdx (ags.pickN n xs.length)) := by
  obtain ⟨A, cap, m, ha, hb, hf, hB⟩ := h
  refine (ags.take_any w b A cap m N xs n ha hz hN).mono ?_
  rintro e w' ⟨rfl, f, A', cap', ha', hbl⟩
  refine ⟨rfl, A', cap', m, ha', on_fr hb f hf hB, fun g hg => hf g ?_, Nat.le_trans hB f.size⟩
  unfold ags.foot at hg ⊢
  rw [hbl] at hg
  exact hg

def WorksPost (w : World) (e : Ending) (w' : World) : Prop := e = .returned (.bool true) ∧ Below w.heap.size w w'

theorem one_rd (w : World) (x : Int) (t : TypeId) : Rd (w.alloc (.cells #[.int .i64 x] t)) (some ⟨w.heap.size, 0, none⟩) (vals [x]) := fun _ => ⟨w.heap.size, 0, rfl, by simp, fun j hj => by
  have : j = 0 := by simp [vals] at hj; omega
  subst this
  exact new_cell w _ t⟩

set_option maxRecDepth 100000 in
set_option maxHeartbeats 400000 in
theorem works_any (w : World) : Calls Try.prog 31 #[] w (WorksPost w) := by
  have H0 : Hid (SA w.heap.size w (w.alloc (.cells #[.slice none 0 0, .map none] 62)) w.heap.size 0 []) := Lib.hid ⟨none, 0, none, ags_new w, (Below.refl _ _).alloc (Nat.le_refl _) _, by simp [ags.foot, blk], by simp⟩
  have K1 := Lib.hid (fun w' (h : SA w.heap.size w w' w.heap.size 0 []) => sa_put h ⟨#[97]⟩ (by decide) (by simp) (by omega))
  have K2 := Lib.hid (fun w' (h : SA w.heap.size w w' w.heap.size 1 [⟨#[97]⟩]) => sa_put h ⟨#[98]⟩ (by decide) (by decide) (by omega))
  have K3 := Lib.hid (fun w' (h : SA w.heap.size w w' w.heap.size 2 [⟨#[97]⟩, ⟨#[98]⟩]) => sa_put h ⟨#[99]⟩ (by decide) (by decide) (by omega))
  have K4 : Hid (∀ w', SA w.heap.size w w' w.heap.size 3 [⟨#[97]⟩, ⟨#[98]⟩, ⟨#[99]⟩] → Calls Try.prog 36 #[.pointer (some ⟨w.heap.size, 0, none⟩), .int .i64 4] w' fun e w'' => e = .returned (.tuple #[.string ⟨#[98]⟩, .bool true]) ∧ SA w.heap.size w w'' w.heap.size 3 [⟨#[97]⟩, ⟨#[99]⟩]) := Lib.hid (fun w' h => sa_take h 4 (by simp) (by omega))
  have K5 : Hid (∀ w', SA w.heap.size w w' w.heap.size 3 [⟨#[97]⟩, ⟨#[99]⟩] → Calls Try.prog 36 #[.pointer (some ⟨w.heap.size, 0, none⟩), .int .i64 0] w' fun e w'' => e = .returned (.tuple #[.string ⟨#[97]⟩, .bool true]) ∧ SA w.heap.size w w'' w.heap.size 3 [⟨#[99]⟩]) := Lib.hid (fun w' h => sa_take h 0 (by simp) (by omega))
  have K6 : Hid (∀ w', SA w.heap.size w w' w.heap.size 3 [⟨#[99]⟩] → Calls Try.prog 36 #[.pointer (some ⟨w.heap.size, 0, none⟩), .int .i64 (-1)] w' fun e w'' => e = .returned (.tuple #[.string ⟨#[99]⟩, .bool true]) ∧ SA w.heap.size w w'' w.heap.size 3 []) := Lib.hid (fun w' h => (sa_take h (-1) (by simp) (by omega)).mono (by
    have e : ags.pickN (-1) 1 = 0 := by have := ags.pick_lt (-1) 1 (by omega); omega
    simp only [List.length_singleton, e]
    exact fun _ _ h => h))
  go_enter Try.func31, Try.ntmps31
  go_wp2_with fail
  refine (K1.out _ H0.out).mono ?_
  rintro e w1 ⟨rfl, h1⟩
  have H1 := Lib.hid h1
  clear h1
  go_wp2_with fail
  refine (K2.out _ H1.out).mono ?_
  rintro e w2 ⟨rfl, h2⟩
  have H2 := Lib.hid h2
  clear h2
  go_wp2_with fail
  refine (K3.out _ H2.out).mono ?_
  rintro e w3 ⟨rfl, h3⟩
  have H3 := Lib.hid h3
  clear h3
  go_wp2_with fail
  refine (K4.out _ H3.out).mono ?_
  rintro e w4 ⟨rfl, h4⟩
  have H4 := Lib.hid h4
  clear h4
  go_wp2_with fail
  refine (K5.out _ H4.out).mono ?_
  rintro e w5 ⟨rfl, h5⟩
  have H5 := Lib.hid h5
  clear h5
  go_wp2_with fail
  refine (K6.out _ H5.out).mono ?_
  rintro e w6 ⟨rfl, h6⟩
  have hb6 : Below w.heap.size w w6 := by obtain ⟨_, _, _, _, h, _⟩ := h6; exact h
  have hz6 := hb6.size
  clear h6
  go_wp2_with fail
  refine (of_any _ _ 1 [7] (one_rd w6 7 _) (by simp)).mono ?_
  rintro e w7 ⟨b7, A7, cap7, rfl, p7, f7, g7⟩
  have P7 := Lib.hid p7
  have hb7 : Below w.heap.size w w7 := on_below (hb6.alloc hz6 _) f7 (by simp; omega)
  clear p7
  have K8 := Lib.hid (next_any w7 b7 A7 cap7 [7] P7.out (by simp))
  go_wp2_with fail
  refine K8.out.mono ?_
  rintro e w8 ⟨rfl, f8, _⟩
  go_wp2_with fail
  go_ret
  have hg7 : w.heap.size ≤ b7 := by have := g7 b7 (by simp); simp at this; omega
  exact ⟨rfl, on_fr hb7 f8 (fun g hg => by rw [List.mem_singleton] at hg; rw [hg]; exact hg7) hb7.size⟩

/-- numbers that pick, all of whose blocks are new since a world -/
def PL (B : Nat) (w0 w : World) (b : Nat) (xs : List Int) : Prop := ∃ A cap, Pk w b A cap xs ∧ Below B w0 w ∧ (∀ g ∈ b :: blk A, B ≤ g) ∧ B ≤ w.heap.size

theorem pl_next {B : Nat} {w0 w : World} {b : Nat} {xs : List Int} (h : PL B w0 w b xs) (hm : xs.length ≤ 9223372036854775807) :
    Calls Try.prog 33 #[.pointer (some ⟨b, 0, none⟩)] w fun e w' => e = .returned (.int .i64 (xs.headD 0)) ∧ PL B w0 w' b xs.tail := by
  obtain ⟨A, cap, hp, hb, hf, hB⟩ := h
  refine (next_any w b A cap xs hp hm).mono ?_
  rintro e w' ⟨rfl, f, A', cap', hp', hbl⟩
  exact ⟨rfl, A', cap', hp', on_fr hb f (fun g hg => by rw [List.mem_singleton] at hg; subst hg; exact hf _ (by simp)) hB, by rw [hbl]; exact hf, Nat.le_trans hB f.size⟩

theorem PL.on {B : Nat} {w0 w : World} {b : Nat} {xs : List Int} (h : PL B w0 w b xs) : Below B w0 w := by obtain ⟨_, _, _, h, _⟩ := h; exact h
theorem PL.size {B : Nat} {w0 w : World} {b : Nat} {xs : List Int} (h : PL B w0 w b xs) : B ≤ w.heap.size := by obtain ⟨_, _, _, _, _, h⟩ := h; exact h

set_option maxRecDepth 100000 in
set_option maxHeartbeats 400000 in
theorem law_picks (A : Option Addr) (cap : Nat) (xs : List Int) (w : World) (h : Rd w A (vals xs)) (hm : xs.length ≤ 9223372036854775807) :
    Calls Try.prog 7 #[.slice A xs.length cap] w (WorksPost w) := by
  by_cases hl : xs.length ≤ 200
  · have Hh := Lib.hid h
    obtain ⟨i0, hi0, hz0, hz1, hz2⟩ := info_parts info_int
    have Hi := Lib.hid hi0
    have Hz0 := Lib.hid hz0
    have Hz1 := Lib.hid hz1
    have Hz2 := Lib.hid hz2
    have hdec : decide (200 < (xs.length : Int)) = false := decide_eq_false (by omega)
    clear h hi0 hz0 hz1 hz2 hm
    go_enter Try.func7, Try.ntmps7
    go_wp2_with (at_builtin; refine wpList_app (n := 0) (m := xs.length) rfl (.tmp 9) (.tmp 10) _ rfl (fresh_nil w _) (Hh.out.alloc _) rfl (vals_len xs).symm Try.underlying25 Hi.out Hz0.out Hz1.out Hz2.out rfl rfl rfl (vals_one xs) (by omega) (by omega) ?_; intro A1 cap1 w1 hs1 f1 hb1; have Hs1 := Lib.hid hs1; clear hs1)
    have b1 : Below w.heap.size w w1 := (((Fr.refl [w.heap.size] w).alloc (.cells #[] 3)).trans f1 (G := []) (fun g hg => Or.inr (by rw [List.mem_singleton] at hg; omega)) (fun g hg => Or.inr (by rw [blk_some, List.mem_singleton] at hg; omega))).all
    refine (of_any _ _ _ xs Hs1.out.rd (by omega)).mono ?_
    rintro e w2 ⟨b, A2, cap2, rfl, p2, f2, g2⟩
    have Hp2 : Hid (PL w.heap.size w w2 b xs) := Lib.hid ⟨A2, cap2, p2, on_below b1 f2 b1.size, fun g hg => Nat.le_trans b1.size (g2 g hg), Nat.le_trans b1.size f2.size⟩
    clear p2 f2 g2 f1 hb1 b1
    go_wp2_with fail
    go_loopw [5] (fun i wr => ∃ k : Nat, k ≤ xs.length + 3 ∧ i = .int .i64 k ∧ Hid (PL w.heap.size w wr b (xs.drop k))) (fun i _ => xs.length + 3 - (intOf i).toNat)
    case atStart => exact ⟨0, by omega, rfl, Hp2⟩
    case round =>
      obtain ⟨k, hk, rfl, hp⟩ := hrel
      rename_i wr _
      by_cases hkl : k < xs.length + 3
      · have K1 := Lib.hid (pl_next hp.out (by rw [List.length_drop]; omega))
        have K2 := Lib.hid (fun w' (h : Rd w' A (vals xs)) => rnext_any w' A cap xs k h (by omega) (by omega))
        have Htail : Hid ((xs.drop k).tail = xs.drop (k + 1)) := Lib.hid (by rw [List.tail_drop])
        have hd : decide ((k : Int) < (xs.length : Int) + 3) = true := decide_eq_true (by omega)
        generalize (xs.drop k).headD 0 = z at *
        have hzz : (z != z) = false := by simp
        go_wp2_with fail
        refine K1.out.mono ?_
        rintro e w3 ⟨rfl, p3⟩
        have P3 := Lib.hid p3
        clear p3
        go_wp2_with fail
        refine (K2.out w3 (Hh.out.below P3.out.on)).mono ?_
        rintro e w' ⟨rfl, rfl⟩
        go_wp2_with fail
        refine (next_nil _).mono ?_
        rintro e w' ⟨rfl, rfl⟩
        go_wp2_with fail
        go_roundw
        case rel => exact ⟨k + 1, by omega, by go_num, Lib.hid (Htail.out ▸ P3.out)⟩
        case measure => simp [intOf]; omega
      · obtain rfl : k = xs.length + 3 := by omega
        have hd : decide (((xs.length + 3 : Nat) : Int) < (xs.length : Int) + 3) = false := decide_eq_false (by omega)
        go_wp2_with fail
        refine (works_any _).mono ?_
        rintro e w3 ⟨rfl, b3⟩
        go_wp2_with fail
        go_ret
        exact ⟨rfl, on_below hp.out.on b3 hp.out.size⟩
  · go_enter Try.func7, Try.ntmps7
    go_wp2
    go_ret
    exact ⟨rfl, Below.refl _ _⟩
end Go.Proofs.Ytenohenkedofkaa.ag
