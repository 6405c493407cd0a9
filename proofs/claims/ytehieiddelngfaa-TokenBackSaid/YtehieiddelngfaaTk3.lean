/-
  token: all tokens of a text.
-/
import Derived.Test.YtehieiddelngfaaTk2
namespace Go.Proofs.Ytehieiddelngfaa.tk
open Go.RowKit Go.Proofs.Ytehieiddelngfaa.dg Go.Proofs.Ytehieiddelngfaa.mem

def APost (w : World) (R : Res) (e : Ending) (w' : World) : Prop :=
  Below w.heap.size w w' ∧ match R with
  | .ok ts => ∃ A cap, e = .returned (.tuple #[.slice A ts.length cap, .int .i64 0, .int .i64 0]) ∧ Rd w' A (cellsT ts)
  | .bad line er => e = .returned (.tuple #[.slice none 0 0, .int .i64 (line : Int), .int .i64 er])

def szOf : Value → Nat
  | .string b => b.size
  | _ => 0

theorem go_nil (f line : Nat) (acc : List Tok) : go f [] line acc = .ok acc := by cases f <;> rfl

theorem cons_of (t : ByteArray) (h : 0 < t.size) : t.data.toList = t[0] :: t.data.toList.drop 1 := by
  have := headD_zero t h
  rcases hl : t.data.toList with _ | ⟨c, r⟩
  · have := size_list t; rw [hl] at this; simp at this; omega
  · rw [hl] at this; simp at this; rw [this]; rfl

theorem info_tok : (Try.prog.info? 61).map (fun i => (i.zero, i.size, i.bytes)) = some (some (.agg #[.int .i64 0, .string ⟨#[]⟩, .int .i64 0]), 3, 32) := by kernel_rfl

theorem enc_one (t : Tok) : ∀ u ∈ encT t, u.oneCell' = true := by
  intro u hu
  simp only [encT, List.mem_cons, List.not_mem_nil, or_false] at hu
  rcases hu with rfl | rfl | rfl <;> rfl

/-- between two tokens -/
structure TA (w wr : World) (T : TypeId) (A : Option Addr) (cap : Nat) (acc : List Tok) : Prop where
  sg : Sg 3 wr T A cap acc.length (cellsT acc)
  on : Below w.heap.size w wr
  own : ∀ g ∈ blk A, w.heap.size ≤ g

theorem TA.new (w : World) (T : TypeId) : TA w w T none 0 [] := ⟨Sg.new 3 w T, Below.refl _ _, by simp [blk]⟩

theorem TA.below {w wr w' : World} {T : TypeId} {A : Option Addr} {cap : Nat} {acc : List Tok} (h : TA w wr T A cap acc) (b : Below wr.heap.size wr w') : TA w w' T A cap acc :=
  ⟨h.sg.kept (Fr.of_below b []) (by simp), h.on.trans (b.mono h.on.size), h.own⟩

theorem TA.push {w wr w3 : World} {T : TypeId} {A A' : Option Addr} {cap cap' : Nat} {acc : List Tok} {o : Obj} (h : TA w wr T A cap acc) (t : Tok) (hs : Sg 3 w3 T A' cap' (acc.length + 1) (cellsT acc ++ encT t)) (b3 : Fr (blk A) (wr.alloc o) w3) (hf3 : blk A' = blk A ∨ blk A' = [(wr.alloc o).heap.size]) : TA w w3 T A' cap' (acc ++ [t]) := by
  have f : Fr (blk A) wr w3 := ((Fr.refl (blk A) wr).alloc o).trans b3 (fun g hg => Or.inl hg) (fun g hg => Or.inl hg)
  refine ⟨?_, h.on.trans (f.below h.own h.on.size), fun g hg => ?_⟩
  · rw [← cellsT_snoc, List.length_append, List.length_singleton]
    exact hs
  · rcases hf3 with e | e
    · exact h.own g (e ▸ hg)
    · rw [e, List.mem_singleton] at hg
      subst hg
      have := h.on.size
      simp; omega

theorem go_cons (f : Nat) (c : UInt8) (r : List UInt8) (line : Nat) (acc : List Tok) : go (f + 1) (c :: r) line acc =
    if c = 10 then go f r (line + 1) acc
    else if c = 32 ∨ c = 9 ∨ c = 13 then go f r line acc
    else if c = 35 then go f (note (c :: r)) line acc
    else if (fst3 (c :: r)).2.2 ≠ 0 then .bad line (fst3 (c :: r)).2.2
    else go f ((c :: r).drop (fst3 (c :: r)).2.1) line (acc ++ [((fst3 (c :: r)).1, (c :: r).take (fst3 (c :: r)).2.1, line)]) := rfl

theorem fst3_le (l : List UInt8) (h : l ≠ []) : (fst3 l).2.1 ≤ l.length := by
  have hs := spl_le l
  have h1 : 1 ≤ l.length := by cases l; exact absurd rfl h; simp
  unfold fst3
  split
  · split
    · exact h1
    · exact Nat.zero_le _
  · split
    · exact hs
    · split
      · exact hs
      · split
        · exact hs
        · exact Nat.zero_le _

theorem eq_nat (c : UInt8) (k : Nat) (hk : k < 256) : ((c.toNat : Int) == (k : Int)) = decide (c = UInt8.ofNat k) := by
  by_cases h : c = UInt8.ofNat k
  · rw [decide_eq_true h, h]
    simp
    omega
  · rw [decide_eq_false h]
    rw [beq_eq_false_iff_ne]
    intro e
    apply h
    have : c.toNat = k := by omega
    rw [← this]
    simp

set_option maxRecDepth 100000 in
set_option maxHeartbeats 2000000 in
theorem all_any (w : World) (s : ByteArray) (hs : s.size ≤ 20000) (hm : MaxAt w) : Calls Try.prog 26 #[.string s] w (APost w (go s.size s.data.toList 1 [])) := by
  have hdl : decide ((20000 : Int) < (s.size : Int)) = false := decide_eq_false (by omega)
  obtain ⟨R, hR⟩ : ∃ R, Hid (go s.size s.data.toList 1 [] = R) := ⟨_, Lib.hid rfl⟩
  rw [hR.out]
  have H0 := Lib.hid (TA.new w 61)
  have HM := Lib.hid hm
  obtain ⟨i0, hi0, hz0, hz1, hz2⟩ := info_parts info_tok
  have Hi := Lib.hid hi0
  have Hz0 := Lib.hid hz0
  have Hz1 := Lib.hid hz1
  have Hz2 := Lib.hid hz2
  clear hm hi0 hz0 hz1 hz2
  go_enter Try.func26, Try.ntmps26
  go_wp2_with fail
  go_loopw [0, 5, 6] (fun s0 l0 ln wr => ∃ (f : Nat) (t : ByteArray) (acc : List Tok) (A : Option Addr) (cap line : Nat), s0 = .string t ∧ l0 = .slice A acc.length cap ∧ ln = .int .i64 (line : Int) ∧ t.size ≤ f ∧ acc.length + t.size ≤ s.size ∧ line + t.size ≤ s.size + 1 ∧ Hid (go f t.data.toList line acc = R) ∧ Hid (TA w wr 61 A cap acc)) (fun s0 _ _ _ => szOf s0)
  case atStart => exact ⟨s.size, s, [], none, 0, 1, rfl, rfl, rfl, by omega, by simp, by omega, hR, H0⟩
  case round =>
    obtain ⟨f, t, acc, A, cap, line, rfl, rfl, rfl, hf, ha, hl, hg, ht⟩ := hrel
    rename_i wr
    by_cases h0 : t.size = 0
    · have he : t.toList = [] := empty_list t h0
      have hr : Hid (Res.ok acc = R) := Lib.hid (by have := hg.out; rw [show t.data.toList = [] from List.eq_nil_of_length_eq_zero (by rw [size_list]; exact h0), go_nil] at this; exact this)
      clear h0 hg
      go_wp2_with fail
      go_ret3
      refine ⟨ht.out.on, ?_⟩
      rw [← hr.out]
      exact ⟨A, cap, rfl, ht.out.sg.rd (by omega)⟩
    have he : t.toList.isEmpty = false := not_empty t h0
    have hz : 0 < t.size := by omega
    obtain ⟨f', rfl⟩ : ∃ f', f = f' + 1 := ⟨f - 1, by omega⟩
    have hcons := cons_of t hz
    have hd1 := ext_list t 1
    have hds : (t.extract 1 t.size).size = t.size - 1 := by simp
    have hg2 := hg.out
    rw [hcons, go_cons] at hg2
    rw [← hcons, ← hd1] at hg2
    have b10 : ((t[0].toNat : Int) == 10) = decide (t[0] = 10) := eq_nat t[0] 10 (by omega)
    have b32 : ((t[0].toNat : Int) == 32) = decide (t[0] = 32) := eq_nat t[0] 32 (by omega)
    have b9 : ((t[0].toNat : Int) == 9) = decide (t[0] = 9) := eq_nat t[0] 9 (by omega)
    have b13 : ((t[0].toNat : Int) == 13) = decide (t[0] = 13) := eq_nat t[0] 13 (by omega)
    have b35 : ((t[0].toNat : Int) == 35) = decide (t[0] = 35) := eq_nat t[0] 35 (by omega)
    clear hg hd1
    by_cases c10 : t[0] = 10
    · rw [if_pos c10] at hg2
      rw [decide_eq_true c10] at b10
      have HG := Lib.hid hg2
      clear hg2 b32 b9 b13 b35 c10 hcons
      go_wp2_with fail
      go_roundw
      case rel => exact ⟨f', t.extract 1 t.size, acc, A, cap, line + 1, rfl, rfl, by go_num, by omega, by omega, by omega, HG, ht⟩
      case measure => simp [szOf]; omega
    rw [if_neg c10] at hg2
    rw [decide_eq_false c10] at b10
    by_cases cb : t[0] = 32 ∨ t[0] = 9 ∨ t[0] = 13
    · rw [if_pos cb] at hg2
      have HG := Lib.hid hg2
      clear hg2 b35 c10 hcons
      by_cases c32 : t[0] = 32
      · rw [decide_eq_true c32] at b32
        clear b9 b13 cb c32
        go_wp2_with fail
        go_roundw
        case rel => exact ⟨f', t.extract 1 t.size, acc, A, cap, line, rfl, rfl, rfl, by omega, by omega, by omega, HG, ht⟩
        case measure => simp [szOf]; omega
      · rw [decide_eq_false c32] at b32
        by_cases c9 : t[0] = 9
        · rw [decide_eq_true c9] at b9
          clear b13 cb c32 c9
          go_wp2_with fail
          go_roundw
          case rel => exact ⟨f', t.extract 1 t.size, acc, A, cap, line, rfl, rfl, rfl, by omega, by omega, by omega, HG, ht⟩
          case measure => simp [szOf]; omega
        · rw [decide_eq_false c9] at b9
          have c13 : t[0] = 13 := by rcases cb with h | h | h; exact absurd h c32; exact absurd h c9; exact h
          rw [decide_eq_true c13] at b13
          clear cb c32 c9 c13
          go_wp2_with fail
          go_roundw
          case rel => exact ⟨f', t.extract 1 t.size, acc, A, cap, line, rfl, rfl, rfl, by omega, by omega, by omega, HG, ht⟩
          case measure => simp [szOf]; omega
    rw [if_neg cb] at hg2
    rw [decide_eq_false (fun h => cb (Or.inl h))] at b32
    rw [decide_eq_false (fun h => cb (Or.inr (Or.inl h)))] at b9
    rw [decide_eq_false (fun h => cb (Or.inr (Or.inr h)))] at b13
    clear cb
    by_cases c35 : t[0] = 35
    · rw [if_pos c35] at hg2
      rw [decide_eq_true c35] at b35
      have KN := Lib.hid (note_any wr t (by unfold maxLen; omega))
      have hnl : (note t.data.toList).length + 1 ≤ t.size := by
        have := note_len t[0] (t.data.toList.drop 1) (by rw [c35]; decide)
        rw [← hcons, List.length_drop, size_list] at this
        omega
      have HG := Lib.hid hg2
      clear hg2 c10 c35 hcons
      go_wp2_with fail
      refine KN.out.mono ?_
      rintro e w' ⟨⟨t', rfl, htl⟩, rfl⟩
      have hts : t'.size + 1 ≤ t.size := by rw [← size_list t', htl]; exact hnl
      rw [← htl] at HG
      clear htl hnl
      go_wp2_with fail
      go_roundw
      case rel => exact ⟨f', t', acc, A, cap, line, rfl, rfl, rfl, by omega, by omega, by omega, HG, ht⟩
      case measure => simp [szOf]; omega
    · rw [if_neg c35] at hg2
      rw [decide_eq_false c35] at b35
      have KF := Lib.hid (first_any wr t (by omega) hz (HM.out.below ht.out.on))
      have hp := fst3_pos t.data.toList
      have hle := fst3_le t.data.toList (by rw [hcons]; simp)
      rw [size_list] at hle
      clear c10 c35 hcons hds
      by_cases her : (fst3 t.data.toList).2.2 = 0
      · rw [if_neg (by rw [her]; simp)] at hg2
        have hp := hp her
        rw [← ext_list] at hg2
        have HG := Lib.hid hg2
        unfold FPost at KF
        rw [her] at KF
        have hxs : (t.extract (fst3 t.data.toList).2.1 t.size).size = t.size - (fst3 t.data.toList).2.1 := by simp
        clear hg2 her
        generalize (fst3 t.data.toList).1 = kd at *
        generalize (fst3 t.data.toList).2.1 = n at *
        go_wp2_with fail
        refine KF.out.mono ?_
        rintro e w' ⟨⟨t2, rfl, ht2⟩, b2⟩
        have ht2s : t2.size = n := by rw [← size_list t2, ht2, List.length_take, size_list]; omega
        rw [← ht2] at HG
        have T2 := Lib.hid (ht.out.below b2)
        have HE : Hid (encT (kd, t2.data.toList, line) = [.int .i64 kd, .string t2, .int .i64 (line : Int)]) := Lib.hid (by unfold encT; rw [ba_eq])
        clear ht2 b2 ht KF
        subst ht2s
        go_wp2_with (at_builtin
                     refine wpList_row (us := [.int .i64 kd, .string t2, .int .i64 (line : Int)]) rfl _ _ _ rfl (T2.out.sg.alloc _) Try.underlying50 Hi.out Hz0.out Hz1.out Hz2.out rfl rfl rfl rfl (three_cells w' _ _ _ _) (HE.out ▸ enc_one (kd, t2.data.toList, line)) (by omega) (by omega) ?_
                     intro A' cap' w5 hs5 b5 hf5)
        have T5 := Lib.hid (T2.out.push (kd, t2.data.toList, line) (HE.out ▸ hs5) b5 hf5)
        clear hs5 b5 hf5 T2
        go_roundw
        case rel => exact ⟨f', t.extract t2.size t.size, _, A', cap', line, rfl, by rw [List.length_append, List.length_singleton], rfl, by omega, by simp; omega, by omega, HG, T5⟩
        case measure => simp [szOf]; omega
      · rw [if_pos her] at hg2
        have HG := Lib.hid hg2
        have her2 : ((fst3 t.data.toList).2.2 != 0) = true := by simpa using her
        unfold FPost at KF
        clear hg2 her hp hle
        generalize (fst3 t.data.toList).1 = kd at *
        generalize (fst3 t.data.toList).2.1 = n at *
        generalize (fst3 t.data.toList).2.2 = er at *
        go_wp2_with fail
        refine KF.out.mono ?_
        rintro e w' ⟨⟨t2, rfl, _⟩, b2⟩
        have T2 := Lib.hid (ht.out.below b2)
        clear b2 ht KF
        go_wp2_with fail
        go_ret3
        refine ⟨T2.out.on, ?_⟩
        rw [← HG.out]
        exact rfl
end Go.Proofs.Ytehieiddelngfaa.tk
