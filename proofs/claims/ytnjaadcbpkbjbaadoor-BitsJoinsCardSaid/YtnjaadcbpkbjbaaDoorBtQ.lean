/-
  Bits: two sets and their two lists, between two operations of the law.
-/
import Derived.Test.YtnjaadcbpkbjbaaDoorBtO
import Derived.Test.YtnjaadcbpkbjbaaDoorBtH
import Derived.Test.YtnjaadcbpkbjbaaDoorBtI
import Derived.Test.YtnjaadcbpkbjbaaDoorBtP
namespace Go.Proofs.YtnjaadcbpkbjbaaDoor.bt
open Go.RowKit Go.Sort Go.Proofs.YtnjaadcbpkbjbaaDoor.mem

structure LI (w W : World) (s1 s2 : Nat) (A1 : Option Addr) (cap1 : Nat) (B : List Blk) (A2 : Option Addr) (cap2 : Nat) (C : List Blk) (R1 : Option Addr) (rc1 : Nat) (R2 : Option Addr) (rc2 : Nat) : Prop where
  a : SA W s1 A1 cap1 B
  b : SA W s2 A2 cap2 C
  ra : RS W R1 rc1 (flat B)
  rb : RS W R2 rc2 (flat C)
  ne : s1 ≠ s2
  dj : ∀ g ∈ blk A1, g ∉ blk A2
  o1 : w.heap.size ≤ s1
  o2 : w.heap.size ≤ s2
  oa : ∀ g ∈ blk A1, w.heap.size ≤ g
  ob : ∀ g ∈ blk A2, w.heap.size ≤ g
  on : Below w.heap.size w W

theorem LI.swap {w W : World} {s1 s2 : Nat} {A1 : Option Addr} {cap1 : Nat} {B : List Blk} {A2 : Option Addr} {cap2 : Nat} {C : List Blk} {R1 : Option Addr} {rc1 : Nat} {R2 : Option Addr} {rc2 : Nat} (h : LI w W s1 s2 A1 cap1 B A2 cap2 C R1 rc1 R2 rc2) : LI w W s2 s1 A2 cap2 C A1 cap1 B R2 rc2 R1 rc1 :=
  ⟨h.b, h.a, h.rb, h.ra, h.ne.symm, fun g hg hm => h.dj g hm hg, h.o2, h.o1, h.ob, h.oa, h.on⟩

theorem LI.kept {w W W' : World} {s1 s2 : Nat} {A1 : Option Addr} {cap1 : Nat} {B : List Blk} {A2 : Option Addr} {cap2 : Nat} {C : List Blk} {R1 : Option Addr} {rc1 : Nat} {R2 : Option Addr} {rc2 : Nat} (h : LI w W s1 s2 A1 cap1 B A2 cap2 C R1 rc1 R2 rc2) (hf : Fr [] W W') : LI w W' s1 s2 A1 cap1 B A2 cap2 C R1 rc1 R2 rc2 :=
  ⟨h.a.kept hf (by simp) (by simp), h.b.kept hf (by simp) (by simp), h.ra.kept hf, h.rb.kept hf, h.ne, h.dj, h.o1, h.o2, h.oa, h.ob, h.on.trans (hf.below (by simp) h.on.size)⟩

/-- the first set has turned, and then its list -/
theorem LI.first {w W W' W'' : World} {s1 s2 : Nat} {A1 : Option Addr} {cap1 : Nat} {B : List Blk} {A2 : Option Addr} {cap2 : Nat} {C : List Blk} {R1 : Option Addr} {rc1 : Nat} {R2 : Option Addr} {rc2 : Nat} (h : LI w W s1 s2 A1 cap1 B A2 cap2 C R1 rc1 R2 rc2)
    {A1' R' : Option Addr} {cap1' rc' : Nat} {B' : List Blk} (hap : AP W s1 A1 B' W' A1' cap1') (hf : Fr [] W' W'') (hr : RS W'' R' rc' (flat B')) : LI w W'' s1 s2 A1' cap1' B' A2 cap2 C R' rc' R2 rc2 := by
  have hfr : Fr (s1 :: blk A1) W W'' := hap.fr.trans hf (fun g hg => Or.inl hg) (by simp)
  have n21 : s2 ∉ s1 :: blk A1 := fun hm => by
    rcases List.mem_cons.1 hm with e | e
    · exact h.ne e.symm
    · exact sg_ne h.a.ba.sg h.b.box (by decide) e
  have nA : ∀ g ∈ blk A2, g ∉ s1 :: blk A1 := fun g hg hm => by
    rcases List.mem_cons.1 hm with e | e
    · subst e
      exact sg_ne h.b.ba.sg h.a.box (by decide) hg
    · exact h.dj g e hg
  have nR : ∀ g ∈ blk R2, g ∉ s1 :: blk A1 := fun g hg hm => by
    rcases List.mem_cons.1 hm with e | e
    · subst e
      exact h.rb.seg.ne_box h.a.box (by decide) hg
    · exact sg_seg h.a.ba.sg h.rb.seg (by decide) g e hg
  have hsz := h.on.size
  refine ⟨hap.sa.kept hf (by simp) (by simp), h.b.kept hfr n21 nA, hr, ⟨h.rb.seg.kept hfr nR, h.rb.few, h.rb.small⟩, h.ne, fun g hg hm => ?_, h.o1, h.o2, fun g hg => ?_, h.ob, h.on.trans (hfr.below (fun g hg => ?_) hsz)⟩
  · rcases hap.bl g hg with e | e
    · exact h.dj g e hm
    · have := h.b.ba.sg.lt g hm
      omega
  · rcases hap.bl g hg with e | e
    · exact h.oa g e
    · omega
  · rcases List.mem_cons.1 hg with e | e
    · rw [e]; exact h.o1
    · exact h.oa g e
end Go.Proofs.YtnjaadcbpkbjbaaDoor.bt
