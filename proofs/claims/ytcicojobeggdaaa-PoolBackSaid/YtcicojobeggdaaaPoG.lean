/-
  pool: works; the law on what a pool is.
-/
import Derived.Test.YtcicojobeggdaaaPoF
namespace Go.Proofs.Ytcicojobeggdaaa.po
open Go.RowKit Go.Sort Go.Proofs.Ytcicojobeggdaaa.mem Go.Proofs.Ytcicojobeggdaaa.vr Go.Proofs.Ytcicojobeggdaaa.inn

def WkPost (w : World) (e : Ending) (w' : World) : Prop := e = .returned (.bool true) ∧ Below w.heap.size w w'

theorem rs_works : rsS [[98], [97, 98], [97]] = [[97], [97, 98], [98]] := by decide
theorem pP_works : pP [[97], [97, 98], [98]] 3 = [3, 0, 1, 97, 1, 1, 98, 0, 1, 98] := by decide

theorem works_rd (w : World) (t : TypeId) : Rd (w.alloc (.cells #[.string ⟨#[98]⟩, .string ⟨#[97, 98]⟩, .string ⟨#[97]⟩] t)) (some ⟨w.heap.size, 0, none⟩) ([[98], [97, 98], [97]].map encStr) := fun _ => ⟨w.heap.size, 0, rfl, by simp, fun j hj => by
  have hj : j < 3 := by simpa using hj
  have hb := Box.new w t #[.string ⟨#[98]⟩, .string ⟨#[97, 98]⟩, .string ⟨#[97]⟩]
  match j, hj with
  | 0, _ => exact hb.cell 0
  | 1, _ => exact hb.cell 1
  | 2, _ => exact hb.cell 2⟩

theorem new_writer (w : World) : WA (w.alloc (.cells #[.slice none 0 0, .int .i64 0] 34)) w.heap.size none 0 ([], 0) := ⟨Box.new w _ _, Seg.nil _ _⟩

theorem wa_bel {w w2 : World} {f : Nat} {B : Option Addr} {c : Nat} {st : List UInt8 × Int} (h : WA w f B c st) (hb : Below w.heap.size w w2) : WA w2 f B c st := h.kept (Fr.of_below hb []) (by simp) (by simp)

theorem below_fr {w0 w w2 : World} {f : Nat} {B : Option Addr} (hb : Below w0.heap.size w0 w) (hf : Fr (f :: blk B) w w2) (h1 : w0.heap.size ≤ f) (h2 : ∀ g ∈ blk B, w0.heap.size ≤ g) : Below w0.heap.size w0 w2 :=
  hb.trans (hf.below (fun g hg => by rcases List.mem_cons.1 hg with rfl | hg; exact h1; exact h2 g hg) hb.size)

structure Apart (b f : Nat) (A B : Option Addr) (n : Nat) : Prop where
  b : b ∉ f :: blk B
  a : 0 < n → ∀ g ∈ blk A, g ∉ f :: blk B

/-- a pool and a writer that has put nothing -/
theorem apart_new {w : World} {b f : Nat} {A : Option Addr} {cap : Nat} {m : List (List UInt8)} (hp : Pl w b A cap m) (hw : WA w f none 0 ([], 0)) : Apart b f A none m.length := by
  refine ⟨fun h => ?_, fun hz g hg h => ?_⟩
  · simp only [blk, List.mem_cons, List.not_mem_nil, or_false] at h
    subst h
    have h1 := hp.box
    have h2 := hw.box
    unfold Box at h1 h2
    rw [h1] at h2
    simp at h2
  · simp only [blk, List.mem_cons, List.not_mem_nil, or_false] at h
    subst h
    obtain ⟨q, off, rfl, hl, hc⟩ := rdS hp.rd hz
    rw [blk_some, List.mem_singleton] at hg
    subst hg
    have h2 := hc 0 hz
    rw [hw.box.cell] at h2
    rcases off with _ | _ | off
    · simp at h2
    · simp at h2
    · simp at h2

theorem write_new (w : World) (b : Nat) (A : Option Addr) (cap : Nat) (m : List (List UInt8)) (f : Nat) (R : List UInt8) (hp : Pl w b A cap m) (hw : WA w f none 0 ([], 0)) (hm : m.length ≤ 100000) (hx : ∀ x ∈ m, x.length ≤ 20000) (hf : ∀ k, k ≤ m.length → (pP m k).length ≤ 40000000) (hR : pP m m.length = R) :
    Calls Try.prog 10 #[.pointer (some ⟨b, 0, none⟩), .pointer (some ⟨f, 0, none⟩)] w fun e w' => e = .returned (.tuple #[]) ∧ ∃ B' c', WSt w w' f none B' c' R := by
  have h := write_p w b A cap m f none 0 [] hp hw (apart_new hp hw).b (apart_new hp hw).a hm hx hf (by simp)
  rw [List.nil_append, hR] at h
  exact h

set_option maxRecDepth 100000 in
theorem works_p (w : World) : Calls Try.prog 15 #[] w (WkPost w) := by
  have hr := works_rd (w.alloc (.cells #[.slice none 0 0, .int .i64 0] 34)) 9
  rw [World.size_alloc] at hr
  have K1 := pof_any ((w.alloc (.cells #[.slice none 0 0, .int .i64 0] 34)).alloc (.cells #[.string ⟨#[98]⟩, .string ⟨#[97, 98]⟩, .string ⟨#[97]⟩] 9)) (some ⟨w.heap.size + 1, 0, none⟩) 3 [[98], [97, 98], [97]] hr (by simp)
  rw [rs_works] at K1
  have e3 : [[98], [97, 98], [97]].length = 3 := rfl
  have K1 : Hid (Calls Try.prog 6 #[.slice (some ⟨w.heap.size + 1, 0, none⟩) 3 3] _ _) := Lib.hid K1
  clear hr e3
  have Kw := Lib.hid (fun (w' : World) b A cap f (hp : Pl w' b A cap [[97], [97, 98], [98]]) (hw : WA w' f none 0 ([], 0)) => write_new w' b A cap _ f _ hp hw (by simp) (by simp) (pP_few _ (by simp) (by simp)) pP_works)
  have W0 := Lib.hid (new_writer w)
  go_enter Try.func15, Try.ntmps15
  go_wp2_with fail
  refine K1.out.mono ?_
  rintro e w2 ⟨b, B, cap, rfl, hp, hb2⟩
  have hb : Below w.heap.size w w2 := (((Below.refl _ _).alloc (Nat.le_refl _) _).alloc (by simp) _).trans (hb2.mono (by simp; omega))
  have W2 : Hid (WA w2 w.heap.size none 0 ([], 0)) := Lib.hid (wa_bel (wa_bel W0.out ((Below.refl _ _).alloc (Nat.le_refl _) _)) hb2)
  have K2 := Lib.hid (Kw.out w2 b B cap _ hp W2.out)
  have HB := Lib.hid hb
  clear hb hb2 hp Kw K1 W0 W2
  go_wp2_with fail
  refine K2.out.mono ?_
  rintro e w3 ⟨rfl, B3, c3, h3⟩
  have K3 := Lib.hid (done_own h3.wa)
  have HB3 := Lib.hid (below_fr HB.out h3.fr (Nat.le_refl _) (by simp [blk]))
  clear h3 HB K2
  go_wp2_with fail
  refine K3.out.mono ?_
  rintro e w4 ⟨rfl, b4⟩
  have HB4 := Lib.hid (HB3.out.trans (b4.mono HB3.out.size))
  clear b4 HB3 K3
  unfold encStr
  go_wp2_with fail
  go_ret
  exact ⟨rfl, HB4.out⟩
end Go.Proofs.Ytcicojobeggdaaa.po
