/-
  Bits: two sets and their lists, operation by operation: contracts.
-/
import Derived.Test.YtnjaadcbpkbjbaaDoorBtQ
import Derived.Test.YtnjaadcbpkbjbaaDoorBtS
namespace Go.Proofs.YtnjaadcbpkbjbaaDoor.bt
open Go.RowKit Go.Sort Go.Proofs.YtnjaadcbpkbjbaaDoor.mem

theorem srt_len_le : ∀ {L U : List Nat}, Srt L → (∀ x ∈ L, x ∈ U) → L.length ≤ U.length
  | [], _, _, _ => Nat.zero_le _
  | x :: r, U, h, hs => by
    have h1 := List.pairwise_cons.1 h
    have hx : x ∈ U := hs x (by simp)
    have := srt_len_le (L := r) (U := U.erase x) h1.2 fun y hy => by
      have := h1.1 y hy
      exact (List.mem_erase_of_ne (by omega)).2 (hs y (List.mem_cons_of_mem _ hy))
    rw [List.length_erase_of_mem hx] at this
    have := List.length_pos_of_mem hx
    rw [List.length_cons]
    omega

/-- few numbers in all -/
def Bd (k : Nat) (B C : List Blk) : Prop := ∃ U : List Nat, U.length ≤ k ∧ (∀ x ∈ flat B, x ∈ U) ∧ ∀ x ∈ flat C, x ∈ U

theorem Bd.zero : Bd 0 [] [] := ⟨[], Nat.le_refl _, by simp [flat], by simp [flat]⟩
theorem Bd.swap {k : Nat} {B C : List Blk} (h : Bd k B C) : Bd k C B := let ⟨U, a, b, c⟩ := h; ⟨U, a, c, b⟩
theorem Bd.mono {k k' : Nat} {B C : List Blk} (h : Bd k B C) (hk : k ≤ k') : Bd k' B C := let ⟨U, a, b, c⟩ := h; ⟨U, Nat.le_trans a hk, b, c⟩
theorem Bd.len {k : Nat} {B C : List Blk} (h : Bd k B C) (hB : Ok B) : (flat B).length ≤ k := let ⟨_, a, b, _⟩ := h; Nat.le_trans (srt_len_le (srt_flat hB.rise) b) a
theorem Bd.add {k : Nat} {B C : List Blk} (h : Bd k B C) (hB : Ok B) (n : Int) : Bd (k + 1) (addB n B) C := by
  obtain ⟨U, a, b, c⟩ := h
  refine ⟨n.toNat :: U, by simpa using a, fun x hx => ?_, fun x hx => List.mem_cons_of_mem _ (c x hx)⟩
  rw [flat_addB hB] at hx
  unfold addL at hx
  split at hx
  · rcases mem_ins.1 hx with rfl | hx
    · simp
    · exact List.mem_cons_of_mem _ (b x hx)
  · exact List.mem_cons_of_mem _ (b x hx)
theorem Bd.join {k : Nat} {B C : List Blk} (h : Bd k B C) (hB : Ok B) (hC : Ok C) : Bd k (orB B C) C := by
  obtain ⟨U, a, b, c⟩ := h
  exact ⟨U, a, fun x hx => by rcases ((orB_ok hB hC).2 x).1 hx with h | h; exact b x h; exact c x h, c⟩

/-- two sets and their two lists -/
def ST (w W : World) (s1 s2 k : Nat) (B C : List Blk) (R1 : Option Addr) (rc1 : Nat) (R2 : Option Addr) (rc2 : Nat) : Prop :=
  ∃ A1 cap1 A2 cap2, LI w W s1 s2 A1 cap1 B A2 cap2 C R1 rc1 R2 rc2 ∧ Bd k B C

theorem ST.swap {w W : World} {s1 s2 k : Nat} {B C : List Blk} {R1 : Option Addr} {rc1 : Nat} {R2 : Option Addr} {rc2 : Nat} (h : ST w W s1 s2 k B C R1 rc1 R2 rc2) : ST w W s2 s1 k C B R2 rc2 R1 rc1 :=
  let ⟨A1, c1, A2, c2, a, b⟩ := h; ⟨A2, c2, A1, c1, a.swap, b.swap⟩
theorem ST.kept {w W W' : World} {s1 s2 k : Nat} {B C : List Blk} {R1 : Option Addr} {rc1 : Nat} {R2 : Option Addr} {rc2 : Nat} (h : ST w W s1 s2 k B C R1 rc1 R2 rc2) (hf : Fr [] W W') : ST w W' s1 s2 k B C R1 rc1 R2 rc2 :=
  let ⟨A1, c1, A2, c2, a, b⟩ := h; ⟨A1, c1, A2, c2, a.kept hf, b⟩
theorem ST.mono {w W : World} {s1 s2 k k' : Nat} {B C : List Blk} {R1 : Option Addr} {rc1 : Nat} {R2 : Option Addr} {rc2 : Nat} (h : ST w W s1 s2 k B C R1 rc1 R2 rc2) (hk : k ≤ k') : ST w W s1 s2 k' B C R1 rc1 R2 rc2 :=
  let ⟨A1, c1, A2, c2, a, b⟩ := h; ⟨A1, c1, A2, c2, a, b.mono hk⟩
theorem ST.on {w W : World} {s1 s2 k : Nat} {B C : List Blk} {R1 : Option Addr} {rc1 : Nat} {R2 : Option Addr} {rc2 : Nat} (h : ST w W s1 s2 k B C R1 rc1 R2 rc2) : Below w.heap.size w W :=
  let ⟨_, _, _, _, a, _⟩ := h; a.on
theorem ST.len {w W : World} {s1 s2 k : Nat} {B C : List Blk} {R1 : Option Addr} {rc1 : Nat} {R2 : Option Addr} {rc2 : Nat} (h : ST w W s1 s2 k B C R1 rc1 R2 rc2) : (flat B).length ≤ k :=
  let ⟨_, _, _, _, a, b⟩ := h; b.len a.a.ba.ok

/-- the lists, while the first set turns -/
theorem LI.mid {w W W' : World} {s1 s2 : Nat} {A1 : Option Addr} {cap1 : Nat} {B : List Blk} {A2 : Option Addr} {cap2 : Nat} {C : List Blk} {R1 : Option Addr} {rc1 : Nat} {R2 : Option Addr} {rc2 : Nat} (h : LI w W s1 s2 A1 cap1 B A2 cap2 C R1 rc1 R2 rc2)
    (hf : Fr (s1 :: blk A1) W W') : RS W' R1 rc1 (flat B) ∧ RS W' R2 rc2 (flat C) := by
  have n (R : Option Addr) (rc : Nat) (L : List Nat) (hr : RS W R rc L) : RS W' R rc L := by
    refine ⟨hr.seg.kept hf fun g hg hm => ?_, hr.few, hr.small⟩
    rcases List.mem_cons.1 hm with e | e
    · subst e
      exact hr.seg.ne_box h.a.box (by decide) hg
    · exact sg_seg h.a.ba.sg hr.seg (by decide) g e hg
  exact ⟨n _ _ _ h.ra, n _ _ _ h.rb⟩

def RAddP (w : World) (s1 s2 k : Nat) (B C : List Blk) (R2 : Option Addr) (rc2 : Nat) (n : Int) (e : Ending) (W' : World) : Prop :=
  ∃ R' rc', e = .returned (.tuple #[.slice R' (flat (addB n B)).length rc', .bool (addR n (flat B))]) ∧ ST w W' s1 s2 (k + 1) (addB n B) C R' rc' R2 rc2
def AddP (w : World) (s1 s2 k : Nat) (B C : List Blk) (R1 : Option Addr) (rc1 : Nat) (R2 : Option Addr) (rc2 : Nat) (n : Int) (e : Ending) (W' : World) : Prop :=
  e = .returned (.bool (addR n (flat B))) ∧ Calls Tryd.prog 6 #[.slice R1 (flat B).length rc1, .int .i64 n] W' (RAddP w s1 s2 k B C R2 rc2 n)

theorem st_add {w W : World} {s1 s2 k : Nat} {B C : List Blk} {R1 : Option Addr} {rc1 : Nat} {R2 : Option Addr} {rc2 : Nat} (h : ST w W s1 s2 k B C R1 rc1 R2 rc2) (hk : k < 1000) (n : Int) :
    Calls Tryd.prog 5 #[.pointer (some ⟨s1, 0, none⟩), .int .i64 n] W (AddP w s1 s2 k B C R1 rc1 R2 rc2 n) := by
  have hlen := h.len
  obtain ⟨A1, c1, A2, c2, hl, hb⟩ := h
  refine (add_any W s1 A1 c1 B hl.a n).mono ?_
  rintro e W' ⟨rfl, A', cap', hap⟩
  refine ⟨rfl, (radd_any W' R1 rc1 (flat B) (hl.mid hap.fr).1 (by omega) n).mono ?_⟩
  rintro e W'' ⟨R', rc', rfl, hf, hr⟩
  rw [← flat_addB hl.a.ba.ok] at hr ⊢
  exact ⟨R', rc', rfl, A', cap', A2, c2, hl.first hap hf hr, hb.add hl.a.ba.ok n⟩

def RJoinP (w : World) (s1 s2 k : Nat) (B C : List Blk) (R2 : Option Addr) (rc2 : Nat) (e : Ending) (W' : World) : Prop :=
  ∃ R' rc', e = .returned (.tuple #[.slice R' (flat (orB B C)).length rc', .int .i64 (joinN (flat B) (flat C) : Nat)]) ∧ ST w W' s1 s2 k (orB B C) C R' rc' R2 rc2
def JoinP (w : World) (s1 s2 k : Nat) (B C : List Blk) (R1 : Option Addr) (rc1 : Nat) (R2 : Option Addr) (rc2 : Nat) (e : Ending) (W' : World) : Prop :=
  e = .returned (.int .i64 (joinN (flat B) (flat C) : Nat)) ∧ Calls Tryd.prog 8 #[.slice R1 (flat B).length rc1, .slice R2 (flat C).length rc2] W' (RJoinP w s1 s2 k B C R2 rc2)

theorem st_join {w W : World} {s1 s2 k : Nat} {B C : List Blk} {R1 : Option Addr} {rc1 : Nat} {R2 : Option Addr} {rc2 : Nat} (h : ST w W s1 s2 k B C R1 rc1 R2 rc2) (hk : k < 1000) :
    Calls Tryd.prog 7 #[.pointer (some ⟨s1, 0, none⟩), .pointer (some ⟨s2, 0, none⟩)] W (JoinP w s1 s2 k B C R1 rc1 R2 rc2) := by
  have hlen := h.len
  have hlen2 := h.swap.len
  obtain ⟨A1, c1, A2, c2, hl, hb⟩ := h
  refine (join_any W s1 s2 A1 A2 c1 c2 B C hl.a hl.b).mono ?_
  rintro e W' ⟨rfl, A', cap', hap⟩
  rw [join_eq hl.a.ba.ok hl.b.ba.ok] at hap
  rw [misN_join hl.a.ba.ok hl.b.ba.ok hl.rb.small]
  refine ⟨rfl, (rjoin_any W' R1 R2 rc1 rc2 (flat B) (flat C) (hl.mid hap.fr).1 (hl.mid hap.fr).2 (by omega)).mono ?_⟩
  rintro e W'' ⟨R', rc', rfl, hf, hr⟩
  rw [← flat_orB hl.a.ba.ok hl.b.ba.ok hl.rb.small] at hr ⊢
  exact ⟨R', rc', rfl, A', cap', A2, c2, hl.first hap hf hr, hb.join hl.a.ba.ok hl.b.ba.ok⟩

def SelfP (w : World) (s1 s2 k : Nat) (B C : List Blk) (R1 : Option Addr) (rc1 : Nat) (R2 : Option Addr) (rc2 : Nat) (e : Ending) (W' : World) : Prop :=
  e = .returned (.int .i64 0) ∧ ST w W' s1 s2 k B C R1 rc1 R2 rc2

theorem st_self {w W : World} {s1 s2 k : Nat} {B C : List Blk} {R1 : Option Addr} {rc1 : Nat} {R2 : Option Addr} {rc2 : Nat} (h : ST w W s1 s2 k B C R1 rc1 R2 rc2) :
    Calls Tryd.prog 7 #[.pointer (some ⟨s1, 0, none⟩), .pointer (some ⟨s1, 0, none⟩)] W (SelfP w s1 s2 k B C R1 rc1 R2 rc2) := by
  obtain ⟨A1, c1, A2, c2, hl, hb⟩ := h
  refine (join_any W s1 s1 A1 A1 c1 c1 B B hl.a hl.a).mono ?_
  rintro e W' ⟨rfl, A', cap', hap⟩
  have h0 := join_self hl.a.ba.ok hl.ra.small
  rw [h0] at hap ⊢
  rw [if_neg (by omega)] at hap
  exact ⟨rfl, A', cap', A2, c2, hl.first hap (Fr.refl _ _) (hl.mid hap.fr).1, hb⟩

def KeepP (w : World) (s1 s2 k : Nat) (B C : List Blk) (R1 : Option Addr) (rc1 : Nat) (R2 : Option Addr) (rc2 : Nat) (v : Value) (e : Ending) (W' : World) : Prop :=
  e = .returned v ∧ ST w W' s1 s2 k B C R1 rc1 R2 rc2

/-- what is asked of both sides behind each operation -/
structure Asks (w W : World) (s1 s2 k : Nat) (B C : List Blk) (R1 : Option Addr) (rc1 : Nat) (R2 : Option Addr) (rc2 : Nat) (n : Int) (q : Nat) (hz sm : Bool) : Prop where
  has : Calls Tryd.prog 9 #[.pointer (some ⟨s1, 0, none⟩), .int .i64 n] W (KeepP w s1 s2 k B C R1 rc1 R2 rc2 (.bool hz))
  rhas : Calls Tryd.prog 10 #[.slice R1 (flat B).length rc1, .int .i64 n] W (KeepP w s1 s2 k B C R1 rc1 R2 rc2 (.bool hz))
  len : Calls Tryd.prog 11 #[.pointer (some ⟨s1, 0, none⟩)] W (KeepP w s1 s2 k B C R1 rc1 R2 rc2 (.int .i64 ((flat B).length : Nat)))
  blocks : Calls Tryd.prog 12 #[.pointer (some ⟨s1, 0, none⟩)] W (KeepP w s1 s2 k B C R1 rc1 R2 rc2 (.int .i64 (q : Nat)))
  rblocks : Calls Tryd.prog 13 #[.slice R1 (flat B).length rc1] W (KeepP w s1 s2 k B C R1 rc1 R2 rc2 (.int .i64 (q : Nat)))
  same : Calls Tryd.prog 14 #[.pointer (some ⟨s1, 0, none⟩), .pointer (some ⟨s2, 0, none⟩)] W (KeepP w s1 s2 k B C R1 rc1 R2 rc2 (.bool sm))
  rsame : Calls Tryd.prog 15 #[.slice R1 (flat B).length rc1, .slice R2 (flat C).length rc2] W (KeepP w s1 s2 k B C R1 rc1 R2 rc2 (.bool sm))

theorem st_asks (hd : HeldB) {w W : World} {s1 s2 k : Nat} {B C : List Blk} {R1 : Option Addr} {rc1 : Nat} {R2 : Option Addr} {rc2 : Nat} (h : ST w W s1 s2 k B C R1 rc1 R2 rc2) (n : Int) :
    Asks w W s1 s2 k B C R1 rc1 R2 rc2 n B.length (hasZ n B) (decide (B = C)) := by
  have hh := h
  obtain ⟨A1, c1, A2, c2, hl, hb⟩ := hh
  have few1 := hl.ra.few
  have few2 := hl.rb.few
  refine ⟨?_, ?_, ?_, ?_, ?_, ?_, ?_⟩
  · refine (has_any W s1 A1 c1 B hl.a n).mono ?_
    rintro e W' ⟨rfl, b⟩
    exact ⟨rfl, h.kept (Fr.of_below b [])⟩
  · refine (rhas_flat W R1 rc1 B hl.ra.rd (by omega) hl.ra.small n).mono ?_
    rintro e W' ⟨rfl, rfl⟩
    exact ⟨rfl, h⟩
  · refine (len_any W s1 A1 c1 B hl.a).mono ?_
    rintro e W' ⟨rfl, b⟩
    exact ⟨rfl, h.kept (Fr.of_below b [])⟩
  · refine (blocks_any W s1 A1 c1 B hl.a).mono ?_
    rintro e W' ⟨rfl, rfl⟩
    exact ⟨rfl, h⟩
  · refine (rblocks_any W R1 rc1 (flat B) hl.ra).mono ?_
    rintro e W' ⟨rfl, b⟩
    rw [blocks_flat hl.a.ba.ok]
    exact ⟨rfl, h.kept b⟩
  · refine (same_any hd W s1 s2 A1 A2 c1 c2 B C hl.a hl.b).mono ?_
    rintro e W' ⟨rfl, b⟩
    exact ⟨rfl, h.kept (Fr.of_below b [])⟩
  · refine (rsame_any W R1 R2 rc1 rc2 (flat B) (flat C) hl.ra.rd hl.rb.rd (by omega) (by omega)).mono ?_
    rintro e W' ⟨rfl, b⟩
    rw [same_flat hl.a.ba.ok hl.b.ba.ok]
    exact ⟨rfl, h.kept (Fr.of_below b [])⟩

def ListP (w : World) (s1 s2 k : Nat) (B C : List Blk) (R1 : Option Addr) (rc1 : Nat) (R2 : Option Addr) (rc2 : Nat) (e : Ending) (W' : World) : Prop :=
  ∃ A' cap', e = .returned (.slice A' (flat B).length cap') ∧ ST w W' s1 s2 k B C R1 rc1 R2 rc2 ∧
    Calls Tryd.prog 15 #[.slice A' (flat B).length cap', .slice R1 (flat B).length rc1] W' (KeepP w s1 s2 k B C R1 rc1 R2 rc2 (.bool true))

theorem st_list {w W : World} {s1 s2 k : Nat} {B C : List Blk} {R1 : Option Addr} {rc1 : Nat} {R2 : Option Addr} {rc2 : Nat} (h : ST w W s1 s2 k B C R1 rc1 R2 rc2) (hT : TabB w) (h0 : 0 < w.heap.size) (hk : k < 5000) :
    Calls Tryd.prog 16 #[.pointer (some ⟨s1, 0, none⟩)] W (ListP w s1 s2 k B C R1 rc1 R2 rc2) := by
  have hh := h
  obtain ⟨A1, c1, A2, c2, hl, hb⟩ := hh
  have hlen := h.len
  have hsz := hl.on.size
  refine (law_list W s1 A1 c1 B hl.a (tab_kept hT (Fr.of_below hl.on []) (by simp)) (by omega) (by omega)).mono ?_
  rintro e W' ⟨A', cap', rfl, b, sg⟩
  have h2 := h.kept (Fr.of_below b [])
  refine ⟨A', cap', rfl, h2, ?_⟩
  have hr := hl.ra.kept (Fr.of_below b [])
  refine (rsame_any W' A' R1 cap' rc1 (flat B) (flat B) sg.rd hr.rd (by omega) (by omega)).mono ?_
  rintro e W2 ⟨rfl, b2⟩
  rw [decide_eq_true rfl]
  exact ⟨rfl, h2.kept (Fr.of_below b2 [])⟩
end Go.Proofs.YtnjaadcbpkbjbaaDoor.bt
