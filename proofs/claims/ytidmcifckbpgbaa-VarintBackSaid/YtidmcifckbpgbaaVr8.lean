/-
  varint: what is put: a slice of it, light, write, works.
-/
import Derived.Test.YtidmcifckbpgbaaVr7
namespace Go.Proofs.Ytidmcifckbpgbaa.vr
open Go.RowKit Go.Proofs.Ytidmcifckbpgbaa.mem

abbrev PutT := Bool × Int × ByteArray

/-- a slice of what is put, that can be read -/
def Puts (w : World) (A : Option Addr) (l : List PutT) : Prop := 0 < l.length → ∃ b off, A = some ⟨b, off, none⟩ ∧ b < w.heap.size ∧ ∀ j (hj : j < l.length), w.cell? ⟨b, off + j * 3, none⟩ = some (.bool l[j].1) ∧ w.cell? ⟨b, off + j * 3 + 1, none⟩ = some (.int .i64 l[j].2.1) ∧ w.cell? ⟨b, off + j * 3 + 2, none⟩ = some (.string l[j].2.2)

theorem Puts.below {w w' : World} {A : Option Addr} {l : List PutT} (h : Puts w A l) (hb : Below w.heap.size w w') : Puts w' A l := fun hz => by
  obtain ⟨b, off, rfl, hl, hc⟩ := h hz
  refine ⟨b, off, rfl, Nat.lt_of_lt_of_le hl hb.size, fun j hj => ?_⟩
  obtain ⟨h1, h2, h3⟩ := hc j hj
  exact ⟨(hb.cell (p := ⟨b, _, none⟩) hl).trans h1, (hb.cell (p := ⟨b, _, none⟩) hl).trans h2, (hb.cell (p := ⟨b, _, none⟩) hl).trans h3⟩

def put1 (st : List UInt8 × Int) (p : PutT) : List UInt8 × Int := if p.1 = true then putT st p.2.2 else putN st p.2.1
def putAll (l : List PutT) : List UInt8 × Int := l.foldl put1 ([], 0)

theorem putAll_snoc (l : List PutT) (p : PutT) : putAll (l ++ [p]) = put1 (putAll l) p := by unfold putAll; rw [List.foldl_append]; rfl

theorem put1_len (st : List UInt8 × Int) (p : PutT) : (put1 st p).1.length ≤ st.1.length + 200005 := by
  unfold put1 putT putN
  split
  · split
    · omega
    · split
      · show st.1.length ≤ _
        omega
      · rename_i h
        have := nb_len p.2.2.size (by omega)
        show (st.1 ++ (nb p.2.2.size ++ p.2.2.data.toList)).length ≤ _
        rw [List.length_append, List.length_append]
        have e : p.2.2.data.toList.length = p.2.2.size := by rw [Array.length_toList]; rfl
        omega
  · split
    · omega
    · split
      · show st.1.length ≤ _
        omega
      · have := nb_len p.2.1.toNat (by omega)
        show (st.1 ++ nb p.2.1.toNat).length ≤ _
        rw [List.length_append]
        omega

theorem fold_len : ∀ (l : List PutT) (st : List UInt8 × Int), (l.foldl put1 st).1.length ≤ st.1.length + l.length * 200005
  | [], st => by simp
  | p :: l, st => by
    have h1 := fold_len l (put1 st p)
    have h2 := put1_len st p
    simp only [List.foldl_cons, List.length_cons]
    omega

theorem putAll_len (l : List PutT) : (putAll l).1.length ≤ l.length * 200005 := by
  have := fold_len l ([], 0)
  simpa [putAll] using this

def LPost (w : World) (l : List PutT) (e : Ending) (w' : World) : Prop := ∃ b, e = .returned (.bool b) ∧ w = w' ∧ (b = true → l.length ≤ 300)
def WrPost (w : World) (l : List PutT) (e : Ending) (w' : World) : Prop := e = .returned (.tuple #[.string (bs (doneS (putAll l))), .int .i64 (putAll l).2]) ∧ Below w.heap.size w w'

set_option maxRecDepth 100000 in
theorem light_any (w : World) (A : Option Addr) (cap : Nat) (l : List PutT) (h : Puts w A l) (hm : l.length ≤ 9223372036854775807) :
    Calls Try.prog 19 #[.slice A l.length cap] w (LPost w l) := by
  have Hh := Lib.hid h
  clear h
  go_enter Try.func19, Try.ntmps19
  go_wp2_with fail
  go_loopw [3, 4] (fun n i wr => ∃ (k : Nat) (m : Int), k ≤ l.length ∧ k ≤ 300 ∧ i = .int .i64 k ∧ n = .int .i64 m ∧ w = wr) (fun _ i _ => l.length - (intOf i).toNat)
  case atStart => exact ⟨0, 0, by omega, by omega, rfl, rfl, rfl⟩
  case round =>
    obtain ⟨k, m, hk, hk3, rfl, rfl, rfl⟩ := hrel
    by_cases hkl : k < l.length
    · have e1 : decide ((k : Int) < (l.length : Int)) = true := decide_eq_true (by omega)
      obtain ⟨b, off, rfl, hlt, hcell⟩ := Hh.out (by omega)
      obtain ⟨_, _, c2⟩ := hcell k hkl
      clear hcell
      generalize l[k] = p at *
      obtain ⟨pt, pn, ps⟩ := p
      simp only at c2
      by_cases h3 : 300 ≤ k
      · have d1 : decide ((300 : Int) ≤ (k : Int)) = true := decide_eq_true (by omega)
        go_wp2_with fail
        go_ret
        exact ⟨false, rfl, rfl, by simp⟩
      · have d1 : decide ((300 : Int) ≤ (k : Int)) = false := decide_eq_false (by omega)
        rcases hd : decide (20000 < wrap64 (m + (ps.size : Int))) with _ | _
        · go_wp2_with fail
          go_roundw
          case rel => exact ⟨k + 1, wrap64 (m + (ps.size : Int)), by omega, by omega, by go_num, rfl, trivial⟩
          case measure => simp [intOf]; omega
        · go_wp2_with fail
          go_ret
          exact ⟨false, rfl, rfl, by simp⟩
    · obtain rfl : k = l.length := by omega
      have e1 : decide ((l.length : Int) < (l.length : Int)) = false := decide_eq_false (by omega)
      go_wp2_with fail
      go_ret
      exact ⟨true, rfl, rfl, fun _ => hk3⟩

/-- a writer made since w -/
structure WOwn (w wr : World) (f : Nat) (A : Option Addr) (cap : Nat) (st : List UInt8 × Int) : Prop where
  wa : WA wr f A cap st
  on : Below w.heap.size w wr
  bf : w.heap.size ≤ f
  ba : ∀ g ∈ blk A, w.heap.size ≤ g

theorem WOwn.step {w wr w2 : World} {f : Nat} {A A2 : Option Addr} {cap cap2 : Nat} {st st2 : List UInt8 × Int} (h : WOwn w wr f A cap st) (h2 : WA w2 f A2 cap2 st2) (hf : Fr (f :: blk A) wr w2) (ho : ∀ g ∈ blk A2, g ∈ blk A ∨ wr.heap.size ≤ g) : WOwn w w2 f A2 cap2 st2 := by
  have hs := h.on.size
  have hbf := h.bf
  refine ⟨h2, h.on.trans (hf.below (fun g hg => ?_) hs), hbf, fun g hg => ?_⟩
  · rcases List.mem_cons.1 hg with rfl | hg
    · exact hbf
    · exact h.ba g hg
  · rcases ho g hg with h1 | h1
    · exact h.ba g h1
    · omega

theorem wown_new (w : World) : WOwn w (w.alloc (.cells #[.slice none 0 0, .int .i64 0] 71)) w.heap.size none 0 ([], 0) :=
  ⟨⟨Box.new w _ _, Seg.nil _ _⟩, (Below.refl _ _).alloc (Nat.le_refl _) _, Nat.le_refl _, by simp [blk]⟩

set_option maxRecDepth 100000 in
theorem write_any (w : World) (A : Option Addr) (cap : Nat) (l : List PutT) (h : Puts w A l) (hm : l.length ≤ 300) :
    Calls Try.prog 22 #[.slice A l.length cap] w (WrPost w l) := by
  have Hh := Lib.hid h
  have h0 : Hid (WOwn w (w.alloc (.cells #[.slice none 0 0, .int .i64 0] 71)) w.heap.size none 0 (putAll (l.take 0))) := Lib.hid (wown_new w)
  clear h
  go_enter Try.func22, Try.ntmps22
  go_wp2_with fail
  go_loopw [5] (fun i wr => ∃ (k : Nat) (B : Option Addr) (c : Nat), k ≤ l.length ∧ i = .int .i64 k ∧ Hid (WOwn w wr w.heap.size B c (putAll (l.take k)))) (fun i _ => l.length - (intOf i).toNat)
  case atStart => exact ⟨0, none, 0, by omega, rfl, h0⟩
  case round =>
    obtain ⟨k, B, c, hk, rfl, ho⟩ := hrel
    rename_i wr _
    by_cases hkl : k < l.length
    · have e1 : decide ((k : Int) < (l.length : Int)) = true := decide_eq_true (by omega)
      obtain ⟨b, off, rfl, hlt, hcell⟩ := (Hh.out.below ho.out.on) (by omega)
      obtain ⟨c0, c1, c2⟩ := hcell k hkl
      have hsn : Hid (putAll (l.take (k + 1)) = put1 (putAll (l.take k)) l[k]) := Lib.hid (by rw [List.take_succ_eq_append_getElem hkl, putAll_snoc])
      have hsl : (putAll (l.take k)).1.length ≤ 100000000 := by
        have := putAll_len (l.take k)
        rw [List.length_take] at this
        omega
      clear hcell
      generalize l[k] = p at *
      obtain ⟨pt, pn, ps⟩ := p
      simp only at c0 c1 c2
      cases pt with
      | true =>
        have K := Lib.hid (wt_any wr w.heap.size B c (putAll (l.take k)) ps ho.out.wa hsl)
        unfold WPost at K
        have hp : Hid (putT (putAll (l.take k)) ps = putAll (l.take (k + 1))) := Lib.hid (by rw [hsn.out]; unfold put1; rw [if_pos rfl])
        rw [hp.out] at K
        clear hp hsn hsl c1
        go_wp2_with fail
        refine K.out.mono ?_
        rintro e w2 ⟨rfl, B2, cap2, h2, hf2, ho2⟩
        have H2 := Lib.hid (ho.out.step h2 hf2 ho2)
        clear h2 hf2 ho2 c0 c2 K
        go_wp2_with fail
        go_roundw
        case rel => exact ⟨k + 1, B2, cap2, by omega, by go_num, H2⟩
        case measure => simp [intOf]; omega
      | false =>
        have K := Lib.hid (wn_any wr w.heap.size B c (putAll (l.take k)) pn ho.out.wa hsl)
        unfold WPost at K
        have hp : Hid (putN (putAll (l.take k)) pn = putAll (l.take (k + 1))) := Lib.hid (by rw [hsn.out]; unfold put1; rw [if_neg (by simp)])
        rw [hp.out] at K
        clear hp hsn hsl c2
        go_wp2_with fail
        refine K.out.mono ?_
        rintro e w2 ⟨rfl, B2, cap2, h2, hf2, ho2⟩
        have H2 := Lib.hid (ho.out.step h2 hf2 ho2)
        clear h2 hf2 ho2 c0 c1 K
        go_wp2_with fail
        go_roundw
        case rel => exact ⟨k + 1, B2, cap2, by omega, by go_num, H2⟩
        case measure => simp [intOf]; omega
    · obtain rfl : k = l.length := by omega
      have e1 : decide ((l.length : Int) < (l.length : Int)) = false := decide_eq_false (by omega)
      have K := Lib.hid (wd_any wr w.heap.size B c (putAll (l.take l.length)) ho.out.wa)
      rw [List.take_length] at K
      have hon := Lib.hid ho.out.on
      clear ho
      go_wp2_with fail
      refine K.out.mono ?_
      rintro e w2 ⟨rfl, hb2⟩
      have hb3 := Lib.hid (hon.out.trans (hb2.mono hon.out.size))
      clear hb2
      go_wp2_with fail
      go_ret2
      exact ⟨rfl, hb3.out⟩
end Go.Proofs.Ytidmcifckbpgbaa.vr
