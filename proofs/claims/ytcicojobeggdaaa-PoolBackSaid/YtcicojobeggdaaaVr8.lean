/-
  varint: what is put: a slice of it, light, write, works.
-/
import Derived.Test.YtcicojobeggdaaaVr7
namespace Go.Proofs.Ytcicojobeggdaaa.vr
open Go.RowKit Go.Proofs.Ytcicojobeggdaaa.mem

abbrev PutT := Bool × Int × ByteArray

/-- a slice of what is put, that can be read -/
def Puts (w : World) (A : Option Addr) (l : List PutT) : Prop := 0 < l.length → ∃ b off, A = some ⟨b, off, none⟩ ∧ b < w.heap.size ∧ ∀ j (hj : j < l.length), w.cell? ⟨b, off + j * 3, none⟩ = some (.bool l[j].1) ∧ w.cell? ⟨b, off + j * 3 + 1, none⟩ = some (.int .i64 l[j].2.1) ∧ w.cell? ⟨b, off + j * 3 + 2, none⟩ = some (.string l[j].2.2)

theorem Puts.below {w w' : World} {A : Option Addr} {l : List PutT} (h : Puts w A l) (hb : Below w.heap.size w w') : Puts w' A l := fun hz => by
  obtain ⟨b, off, rfl, hl, hc⟩ := h hz
  refine ⟨b, off, rfl, Nat.lt_of_lt_of_le hl hb.size, fun j hj => ?_⟩
  obtain ⟨h1, h2, h3⟩ := hc j hj
  exact ⟨(hb.cell (p := ⟨b, _, none⟩) hl).trans h1, (hb.cell (p := ⟨b, _, none⟩) hl).trans h2, (hb.cell (p := ⟨b, _, none⟩) hl).trans h3⟩

def put1 (st : List UInt8 × Int) (p : PutT) : List UInt8 × Int := if p.1 = true then putT st p.2.2 else putN st p.2.1
def putAll (l : List PutT) : List UInt8 × Int := l.foldl put1 ([], 0)

theorem putAll_snoc (l : List PutT) (p : PutT) : putAll (l ++ [p]) = put1 (putAll l) p := by unfold putAll; rw [List.foldl_append]; rfl

theorem put1_len (st : List UInt8 × Int) (p : PutT) : (put1 st p).1.length ≤ st.1.length + 200005 := by
  unfold put1 putT putN
  split
  · split
    · omega
    · split
      · show st.1.length ≤ _
        omega
      · rename_i h
        have := nb_len p.2.2.size (by omega)
        show (st.1 ++ (nb p.2.2.size ++ p.2.2.data.toList)).length ≤ _
        rw [List.length_append, List.length_append]
        have e : p.2.2.data.toList.length = p.2.2.size := by rw [Array.length_toList]; rfl
        omega
  · split
    · omega
    · split
      · show st.1.length ≤ _
        omega
      · have := nb_len p.2.1.toNat (by omega)
        show (st.1 ++ nb p.2.1.toNat).length ≤ _
        rw [List.length_append]
        omega

theorem fold_len : ∀ (l : List PutT) (st : List UInt8 × Int), (l.foldl put1 st).1.length ≤ st.1.length + l.length * 200005
  | [], st => by simp
  | p :: l, st => by
    have h1 := fold_len l (put1 st p)
    have h2 := put1_len st p
    simp only [List.foldl_cons, List.length_cons]
    omega

theorem putAll_len (l : List PutT) : (putAll l).1.length ≤ l.length * 200005 := by
  have := fold_len l ([], 0)
  simpa [putAll] using this

def LPost (w : World) (l : List PutT) (e : Ending) (w' : World) : Prop := ∃ b, e = .returned (.bool b) ∧ w = w' ∧ (b = true → l.length ≤ 300)
def WrPost (w : World) (l : List PutT) (e : Ending) (w' : World) : Prop := e = .returned (.tuple #[.string (bs (doneS (putAll l))), .int .i64 (putAll l).2]) ∧ Below w.heap.size w w'

/-- a writer made since w -/
structure WOwn (w wr : World) (f : Nat) (A : Option Addr) (cap : Nat) (st : List UInt8 × Int) : Prop where
  wa : WA wr f A cap st
  on : Below w.heap.size w wr
  bf : w.heap.size ≤ f
  ba : ∀ g ∈ blk A, w.heap.size ≤ g

theorem WOwn.step {w wr w2 : World} {f : Nat} {A A2 : Option Addr} {cap cap2 : Nat} {st st2 : List UInt8 × Int} (h : WOwn w wr f A cap st) (h2 : WA w2 f A2 cap2 st2) (hf : Fr (f :: blk A) wr w2) (ho : ∀ g ∈ blk A2, g ∈ blk A ∨ wr.heap.size ≤ g) : WOwn w w2 f A2 cap2 st2 := by
  have hs := h.on.size
  have hbf := h.bf
  refine ⟨h2, h.on.trans (hf.below (fun g hg => ?_) hs), hbf, fun g hg => ?_⟩
  · rcases List.mem_cons.1 hg with rfl | hg
    · exact hbf
    · exact h.ba g hg
  · rcases ho g hg with h1 | h1
    · exact h.ba g h1
    · omega

theorem wown_new (w : World) : WOwn w (w.alloc (.cells #[.slice none 0 0, .int .i64 0] 34)) w.heap.size none 0 ([], 0) :=
  ⟨⟨Box.new w _ _, Seg.nil _ _⟩, (Below.refl _ _).alloc (Nat.le_refl _) _, Nat.le_refl _, by simp [blk]⟩

end Go.Proofs.Ytcicojobeggdaaa.vr
