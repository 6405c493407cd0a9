/-
  pool: the law: a pool is read as it was.
-/
import Derived.Test.YtcicojobeggdaaaPoL
import Derived.Test.YtcicojobeggdaaaPoH
namespace Go.Proofs.Ytcicojobeggdaaa.po
open Go.RowKit Go.Sort Go.Proofs.Ytcicojobeggdaaa.mem Go.Proofs.Ytcicojobeggdaaa.vr Go.Proofs.Ytcicojobeggdaaa.inn

theorem two_rd (w : World) (t : TypeId) (a b : List UInt8) : Rd (w.alloc (.cells #[encStr a, encStr b] t)) (some ⟨w.heap.size, 0, none⟩) ([a, b].map encStr) := fun _ => ⟨w.heap.size, 0, rfl, by simp, fun j hj => by
  have hj : j < 2 := by simpa using hj
  have hb := Box.new w t #[encStr a, encStr b]
  match j, hj with
  | 0, _ => exact hb.cell 0
  | 1, _ => exact hb.cell 1⟩

theorem new_rd (w : World) (S : ByteArray) : RD (w.alloc (.cells #[.string S, .int .i64 0, .int .i64 0] 60)) w.heap.size S 0 0 := ⟨Box.new w _ _⟩

theorem take_bs (s : List UInt8) (n : Nat) (hn : n ≤ s.length) (W : World) (T : List UInt8) (h : s.take n = T) : (Instr.slice 9 (.string ⟨s.toArray⟩) none (some (.int .i64 (n : Int))) none).run Try.prog W = .ok (.string ⟨T.toArray⟩) W := by
  have hsa : (ByteArray.mk s.toArray).size = s.length := by simp [ByteArray.size]
  rw [run_slice_string_h (P := Try.prog) W 9 ⟨s.toArray⟩ Try.underlying9 .i64 n (by omega) (by rw [hsa]; omega), ← h]
  refine congrArg (fun z => Result.ok (Value.string z) W) ?_
  apply ByteArray.ext
  apply Array.ext'
  rw [ByteArray.data_extract, Array.toList_extract, List.extract_eq_take_drop]
  simp

/-- what reading whatever text comes to -/
theorem read_some (w0 w : World) (r : Nat) (s : List UInt8) (h : RD w r (bs s) 0 0) (on : Below w0.heap.size w0 w) (hr : w0.heap.size ≤ r) (hs : s.length ≤ 20000) :
    Calls Try.prog 17 #[.pointer (some ⟨r, 0, none⟩)] w fun e w' =>
      (∃ (b : Nat) (A : Option Addr) (cap n : Nat) (m : List (List UInt8)), e = .returned (.tuple #[.pointer (some ⟨b, 0, none⟩), .int .i64 0]) ∧ PR w0 w' r b A cap (bs s) n 0 m ∧ n ≤ s.length ∧ s.take n = pP m m.length ∧ m.length ≤ 6000 ∧ ∀ x ∈ m, x.length ≤ 1000) ∨
      (∃ (d : Int) (n : Nat) (er : Int), d ≠ 0 ∧ e = .returned (.tuple #[.pointer none, .int .i64 d]) ∧ RD w' r (bs s) n er ∧ Below w0.heap.size w0 w') := by
  refine (read_any w0 w r (bs s) 0 h on hr (by rw [bs_sz]; omega) (Nat.zero_le _)).mono ?_
  rintro e w' (⟨hd, b, A, cap, rfl, hp⟩ | ⟨hd, rfl, ⟨er, hr⟩, hb⟩)
  · rcases hR : rdT (bs s) 0 with ⟨p', er, d, m⟩
    rw [hR] at hd hp
    simp only at hd hp
    subst hd
    obtain ⟨rfl, h1, h2, h3, h4⟩ := top_way (bs s) p' er m hR
    rw [bs_sz] at h1
    rw [bs_toList] at h4
    exact Or.inl ⟨b, A, cap, p', m, rfl, hp, h1, h4, h3, h2⟩
  · exact Or.inr ⟨_, _, er, hd, rfl, hr, hb⟩

/-- what reading a pool's own bytes comes to -/
theorem read_own (w0 w : World) (r : Nat) (m : List (List UInt8)) (more : List UInt8) (h : RD w r (bs (pP m m.length ++ more)) 0 0) (on : Below w0.heap.size w0 w) (hr : w0.heap.size ≤ r) (hs : (pP m m.length ++ more).length ≤ 200000000) (hm : m.length ≤ 1000) (hx : ∀ x ∈ m, x.length ≤ 1000) (ho : m.Pairwise (fun a b => a < b)) :
    Calls Try.prog 17 #[.pointer (some ⟨r, 0, none⟩)] w fun e w' =>
      ∃ (b : Nat) (A : Option Addr) (cap : Nat), e = .returned (.tuple #[.pointer (some ⟨b, 0, none⟩), .int .i64 0]) ∧ PR w0 w' r b A cap (bs (pP m m.length ++ more)) (pP m m.length).length 0 m := by
  refine (read_any w0 w r _ 0 h on hr (by rw [bs_sz]; omega) (Nat.zero_le _)).mono ?_
  have hR := top_back (bs (pP m m.length ++ more)) (by rw [bs_sz]; omega) m more (bs_toList _) hm hx ho
  rw [hR]
  rintro e w' (⟨hd, b, A, cap, rfl, hp⟩ | ⟨hd, _⟩)
  · exact ⟨b, A, cap, rfl, hp⟩
  · exact absurd rfl hd

set_option maxRecDepth 100000 in
set_option maxHeartbeats 2000000 in
theorem law_back (w : World) (A : Option Addr) (cap : Nat) (l : List (List UInt8)) (more s : List UInt8) (h : Rd w A (l.map encStr)) (hm : l.length ≤ 9223372036854775807) (hr : ∀ x ∈ l, x.length ≤ 140737488355328) (hmo : more.length ≤ 140737488355328) (hso : s.length ≤ 140737488355328) :
    Calls Try.prog 4 #[.slice A l.length cap, encStr more, encStr s] w (WkPost w) := by
  have Hh := Lib.hid h
  have KG := Lib.hid (fun w' (hb : Below w.heap.size w w') => great_p w' A cap l (h.below hb) hm hr)
  have KG2 := Lib.hid (fun (w' : World) => great_p (w'.alloc (.cells #[encStr more, encStr s] 9)) (some ⟨w'.heap.size, 0, none⟩) 2 [more, s] (two_rd w' _ more s) (by simp) (by simp; omega))
  have hM : (rsS l).Pairwise (fun a b => a < b) := rs_sorted l
  have hl1 := rs_len l
  have hmem : Hid (∀ x ∈ rsS l, x ∈ l) := Lib.hid (fun x hx => (mem_rsS l x).1 hx)
  clear h hr hmo hso
  go_enter Try.func4, Try.ntmps4
  go_wp2_with fail
  refine (works_p w).mono ?_
  rintro e w1 ⟨rfl, b1⟩
  have HB1 := Lib.hid b1
  clear b1
  go_wp2_with fail
  refine (KG.out _ HB1.out).mono ?_
  rintro e w2 ⟨r, rfl, rfl, hg⟩
  cases r with
  | true =>
    clear hg
    go_wp2_with fail
    go_ret
    exact ⟨rfl, HB1.out⟩
  | false =>
  have HG := Lib.hid (hg rfl)
  clear hg KG
  go_wp2_with fail
  refine (KG2.out _).mono ?_
  rintro e w3 ⟨r, rfl, rfl, hg⟩
  have HB2 : Hid (Below w.heap.size w (w1.alloc (.cells #[encStr more, encStr s] 9))) := Lib.hid (HB1.out.alloc HB1.out.size _)
  clear HB1
  cases r with
  | true =>
    clear hg
    go_wp2_with fail
    go_ret
    exact ⟨rfl, HB2.out⟩
  | false =>
  obtain ⟨_, hg2⟩ := hg rfl
  have hmol : more.length ≤ 20000 := hg2 more (by simp)
  have hsl : s.length ≤ 20000 := hg2 s (by simp)
  clear hg hg2 KG2
  have hl100 : l.length ≤ 100 := HG.out.1
  generalize (w1.alloc (.cells #[encStr more, encStr s] 9)) = w3 at *
  go_wp2_with fail
  go_loopw [7] (fun i wr => ∃ (k : Nat), k ≤ l.length ∧ i = .int .i64 k ∧ Hid (∀ x ∈ l.take k, x.length ≤ 1000) ∧ w3 = wr) (fun i _ => l.length - (intOf i).toNat)
  case atStart => exact ⟨0, by omega, rfl, Lib.hid (by simp), rfl⟩
  case round =>
    obtain ⟨k, hk, rfl, hx, rfl⟩ := hrel
    by_cases hkl : k < l.length
    · have e1 : decide ((k : Int) < (l.length : Int)) = true := decide_eq_true (by omega)
      obtain ⟨b, off, rfl, hlt, hcell⟩ := rdS (Hh.out.below HB2.out) (by omega)
      have c2 := hcell k hkl
      have hs2 : Hid (l[k].length ≤ 1000 → ∀ x ∈ l.take (k + 1), x.length ≤ 1000) := Lib.hid (fun h x hx' => by
        rw [List.take_succ_eq_append_getElem hkl, List.mem_append, List.mem_singleton] at hx'
        rcases hx' with hx' | rfl
        · exact hx.out x hx'
        · exact h)
      clear hcell hx
      generalize l[k] = p at *
      by_cases hd : 1000 < p.length
      · have d1 : decide ((1000 : Int) < (p.length : Int)) = true := decide_eq_true (by omega)
        go_wp2_with fail
        go_ret
        exact ⟨rfl, HB2.out⟩
      · have d1 : decide ((1000 : Int) < (p.length : Int)) = false := decide_eq_false (by omega)
        go_wp2_with fail
        go_roundw
        case rel => exact ⟨k + 1, by omega, by go_num, Lib.hid (hs2.out (by omega)), trivial⟩
        case measure => simp [intOf]; omega
    · obtain rfl : k = l.length := by omega
      have e1 : decide ((l.length : Int) < (l.length : Int)) = false := decide_eq_false (by omega)
      have hx1 : ∀ x ∈ rsS l, x.length ≤ 1000 := fun x hx' => by
        have := hx.out
        rw [List.take_length] at this
        exact this x (hmem.out x hx')
      have Kof := Lib.hid (fun w' (hb : Below w.heap.size w w') => pof_any w' A cap l (Hh.out.below hb) (by omega))
      have Krof := Lib.hid (fun w' (hb : Below w.heap.size w w') => rof_any w' A cap l (Hh.out.below hb) (by omega))
      clear hx hmem HG
      have HM := Lib.hid hM
      clear hM
      generalize rsS l = M at *
      have hMl : M.length ≤ 100 := by omega
      have hxM : ∀ x ∈ M, x.length ≤ 20000 := fun x hx => Nat.le_trans (hx1 x hx) (by omega)
      have hfew := pP_few M (by omega) hxM
      have hT := hfew M.length (Nat.le_refl _)
      have Kw := Lib.hid (fun w' b B c f (hp : Pl w' b B c M) (hw : WA w' f none 0 ([], 0)) => write_new w' b B c M f (pP M M.length) hp hw (by omega) hxM hfew rfl)
      have Kr := Lib.hid (fun w0 w' r (h : RD w' r (bs (pP M M.length ++ more)) 0 0) (on : Below w0.heap.size w0 w') (hr : w0.heap.size ≤ r) => read_own w0 w' r M more h on hr (by rw [List.length_append]; omega) (by omega) hx1 HM.out)
      have Ks := Lib.hid (fun w' b B c B' c' (hp : Pl w' b B c M) (hr : Rd w' B' (M.map encStr)) => same_p w' b B B' c c' M hp hr HM.out (by omega))
      clear hx1 hxM hfew HM
      generalize pP M M.length = T at *
      have q1 : ¬ 9223372036854775807 < T.length + more.length := by omega
      have s1 : (ByteArray.mk T.toArray ++ ByteArray.mk more.toArray) = ByteArray.mk (T ++ more).toArray := ByteArray.mk_append_mk _ _
      have et : ((T.length : Int) == (T.length : Int)) = true := by simp
      have HBW : Hid (Below w.heap.size w (w3.alloc (.cells #[.slice none 0 0, .int .i64 0] 34))) := Lib.hid (HB2.out.alloc HB2.out.size _)
      have HW := Lib.hid (new_writer w3)
      have hz3 := HB2.out.size
      clear HB2
      go_wp2_with fail
      refine (Kof.out _ HBW.out).mono ?_
      rintro e w5 ⟨b, B, c, rfl, hp, b5⟩
      have HB5 := Lib.hid (on_bel HBW.out b5)
      have HP5 := Lib.hid hp
      have HW5 := Lib.hid (wa_bel HW.out b5)
      clear hp b5 HBW HW
      go_wp2_with fail
      refine (Kw.out _ _ _ _ _ HP5.out HW5.out).mono ?_
      rintro e w6 ⟨rfl, B6, c6, h6⟩
      have HB6 := Lib.hid (below_fr HB5.out h6.fr hz3 (by simp [blk]))
      have K6 := Lib.hid (done_own h6.wa)
      clear h6 HP5 HW5 HB5
      go_wp2_with fail
      refine K6.out.mono ?_
      rintro e w7 ⟨rfl, b7⟩
      have HB7 := Lib.hid (on_bel HB6.out b7)
      clear b7 HB6 K6
      go_wp2_with fail
      refine (rd_new _ w7).mono ?_
      rintro e w8 ⟨rfl, rfl⟩
      have HR8 : Hid (RD (w7.alloc (.cells #[.string (bs (T ++ more)), .int .i64 0, .int .i64 0] 60)) w7.heap.size (bs (T ++ more)) 0 0) := Lib.hid (new_rd w7 _)
      have HO8 : Hid (Below w7.heap.size w7 (w7.alloc (.cells #[.string (bs (T ++ more)), .int .i64 0, .int .i64 0] 60))) := Lib.hid ((Below.refl _ _).alloc (Nat.le_refl _) _)
      have KR8 := Lib.hid (Kr.out w7 _ _ HR8.out HO8.out (Nat.le_refl _))
      clear HR8 HO8 Kr s1
      unfold bs at KR8
      go_wp2_with fail
      refine KR8.out.mono ?_
      rintro e w9 ⟨b9, A9, cap9, rfl, hpr⟩
      have HP9 := Lib.hid hpr
      clear hpr KR8
      go_wp2_with fail
      refine (rd_done w9 _ _ _ _ HP9.out.rd).mono ?_
      rintro e w10 ⟨rfl, h10, f10⟩
      have HP10 := Lib.hid (HP9.out.step h10 f10)
      have HB10 := Lib.hid (on_bel HB7.out HP10.out.on)
      clear h10 f10 HP9
      go_wp2_with fail
      refine (Krof.out _ HB10.out).mono ?_
      rintro e w11 ⟨A11, c11, rfl, s11, b11⟩
      have HP11 := Lib.hid (HP10.out.bel b11)
      have HB11 := Lib.hid (on_bel HB10.out b11)
      have HR11 := Lib.hid s11.rd
      clear s11 b11 HP10 HB10
      go_wp2_with fail
      refine (Ks.out _ _ _ _ _ c11 HP11.out.pl HR11.out).mono ?_
      rintro e w12 ⟨rfl, b12⟩
      have HB12 := Lib.hid (on_bel HB11.out b12)
      clear b12 HP11 HB11 HR11 HB7
      go_wp2_with fail
      refine (rd_new _ w12).mono ?_
      rintro e w13 ⟨rfl, rfl⟩
      have HR13 : Hid (RD (w12.alloc (.cells #[.string (bs s), .int .i64 0, .int .i64 0] 60)) w12.heap.size (bs s) 0 0) := Lib.hid (new_rd w12 _)
      have HO13 : Hid (Below w12.heap.size w12 (w12.alloc (.cells #[.string (bs s), .int .i64 0, .int .i64 0] 60))) := Lib.hid ((Below.refl _ _).alloc (Nat.le_refl _) _)
      have KR13 := Lib.hid (read_some w12 _ _ s HR13.out HO13.out (Nat.le_refl _) hsl)
      clear HR13 HO13
      unfold bs at KR13
      go_wp2_with fail
      refine KR13.out.mono ?_
      rintro e w14 (⟨bx, Ax, cx, n, m, rfl, hpr, hn, htk, hm6, hxm⟩ | ⟨d, n, er, hd, rfl, hrd, hbl⟩)
      · have HP14 := Lib.hid hpr
        clear hpr KR13
        go_wp2_with fail
        refine (rd_done w14 _ _ _ _ HP14.out.rd).mono ?_
        rintro e w15 ⟨rfl, h15, f15⟩
        have HP15 := Lib.hid (HP14.out.step h15 f15)
        have HB15 := Lib.hid (on_bel HB12.out HP15.out.on)
        clear h15 f15 HP14
        have hal : Below w15.heap.size w15 (w15.alloc (.cells #[.slice none 0 0, .int .i64 0] 34)) := (Below.refl _ _).alloc (Nat.le_refl _) _
        have HB16 := Lib.hid (on_bel HB15.out hal)
        have HP16 := Lib.hid (HP15.out.pl.below hal)
        have HW16 := Lib.hid (new_writer w15)
        have hz15 := HB15.out.size
        clear hal HP15 HB15
        have Kw2 := Lib.hid (fun w' b B c f (hp : Pl w' b B c m) (hw : WA w' f none 0 ([], 0)) => write_new w' b B c m f (pP m m.length) hp hw (by omega) (fun x hx => Nat.le_trans (hxm x hx) (by omega)) (pP_few2 m hm6 hxm) rfl)
        have hfin := fun W => take_bs s n hn W (pP m m.length) htk
        have dn : decide ((n : Int) ≤ (s.length : Int)) = true := decide_eq_true (by omega)
        clear hxm htk
        generalize pP m m.length = U at *
        have hUU : (U == U) = true := by simp
        go_wp2_with fail
        refine (Kw2.out _ _ _ _ _ HP16.out HW16.out).mono ?_
        rintro e w17 ⟨rfl, B17, c17, h17⟩
        have HB17 := Lib.hid (below_fr HB16.out h17.fr hz15 (by simp [blk]))
        have K17 := Lib.hid (done_own h17.wa)
        clear h17 HP16 HW16 HB16
        go_wp2_with fail
        refine K17.out.mono ?_
        rintro e w18 ⟨rfl, b18⟩
        have HB18 := Lib.hid (on_bel HB17.out b18)
        clear b18 HB17 K17
        go_wp2_with fail
        go_ret
        exact ⟨rfl, HB18.out⟩
      · have HRD := Lib.hid hrd
        have HB14 := Lib.hid (on_bel HB12.out hbl)
        have hs12 := HB12.out.size
        have d1 : (d != 0) = true := by simpa using hd
        clear hrd hbl KR13
        go_wp2_with fail
        refine (rd_done w14 _ _ _ _ HRD.out).mono ?_
        rintro e w15 ⟨rfl, h15, f15⟩
        have HB15 := Lib.hid (HB14.out.trans (f15.below (by simpa using hs12) HB14.out.size))
        clear h15 f15
        go_wp2_with fail
        go_ret
        exact ⟨rfl, HB15.out⟩
end Go.Proofs.Ytcicojobeggdaaa.po
