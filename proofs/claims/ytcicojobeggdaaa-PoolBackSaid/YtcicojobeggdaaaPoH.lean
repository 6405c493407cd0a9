/-
  pool: the law on what a pool is.
-/
import Derived.Test.YtcicojobeggdaaaPoG
namespace Go.Proofs.Ytcicojobeggdaaa.po
open Go.RowKit Go.Sort Go.Proofs.Ytcicojobeggdaaa.mem Go.Proofs.Ytcicojobeggdaaa.vr Go.Proofs.Ytcicojobeggdaaa.inn

theorem num_cases (m : List (List UInt8)) (x : List UInt8) : ∃ (N K : Int) (ok : Bool), pnV m x = .tuple #[.int .i64 N, .bool ok] ∧ numV m x = K ∧ ((K = -1 ∧ N = 0 ∧ ok = false) ∨ (K = 0 ∧ N = 0 ∧ ok = true) ∨ (0 < K ∧ N = K ∧ ok = true)) := by
  unfold pnV numV
  by_cases h : x ∈ m
  · rw [if_pos h, if_pos h, decide_eq_true h]
    refine ⟨_, _, _, rfl, rfl, ?_⟩
    rcases Nat.eq_zero_or_pos (m.idxOf x) with h0 | h0
    · exact Or.inr (Or.inl ⟨by omega, by omega, rfl⟩)
    · exact Or.inr (Or.inr ⟨by omega, rfl, rfl⟩)
  · rw [if_neg h, if_neg h, decide_eq_false h]
    exact ⟨_, _, _, rfl, rfl, Or.inl ⟨rfl, rfl, rfl⟩⟩

theorem one_str (l : List (List UInt8)) : ∀ u ∈ l.map encStr, u.oneCell' = true := by
  intro u hu
  obtain ⟨s, _, rfl⟩ := List.mem_map.1 hu
  rfl

theorem on_bel {w0 w w' : World} (h : Below w0.heap.size w0 w) (k : Below w.heap.size w w') : Below w0.heap.size w0 w' := h.trans (k.mono h.size)

set_option maxRecDepth 100000 in
set_option maxHeartbeats 1000000 in
theorem law_of (w : World) (A : Option Addr) (cap : Nat) (l : List (List UInt8)) (ask : List UInt8) (h : Rd w A (l.map encStr)) (hm : l.length ≤ 9223372036854775807) (hr : ∀ x ∈ l, x.length ≤ 140737488355328) :
    Calls Try.prog 3 #[.slice A l.length cap, encStr ask] w (WkPost w) := by
  have K1 := Lib.hid (great_p w A cap l h hm hr)
  have Hh := Lib.hid h
  have hM : (rsS l).Pairwise (fun a b => a < b) := rs_sorted l
  have hl1 := rs_len l
  have hmem : Hid (∀ x ∈ rsS l, x ∈ l) := Lib.hid (fun x hx => (mem_rsS l x).1 hx)
  clear h hr
  obtain ⟨N, K, ok, hP, hN, hcs⟩ := num_cases (rsS l) ask
  obtain ⟨i0, hi0, hz0, hz1, hz2⟩ := info_parts info_str
  have Hi := Lib.hid hi0
  have Hz0 := Lib.hid hz0
  have Hz1 := Lib.hid hz1
  have Hz2 := Lib.hid hz2
  have H1 := Lib.hid (one_str l)
  have Hll : Hid (l.length = (l.map encStr).length) := Lib.hid (by simp)
  clear hi0 hz0 hz1 hz2
  go_enter Try.func3, Try.ntmps3
  go_wp2_with fail
  refine K1.out.mono ?_
  rintro e w1 ⟨r, rfl, rfl, hg⟩
  cases r with
  | true =>
    clear hg
    go_wp2_with fail
    go_ret
    exact ⟨rfl, Below.refl _ _⟩
  | false =>
    obtain ⟨hl, hx⟩ := hg rfl
    have Kof := Lib.hid (fun w' A' c' (h : Rd w' A' (l.map encStr)) => pof_any w' A' c' l h (by omega))
    have Krof := Lib.hid (fun w' (hb : Below w.heap.size w w') => rof_any w' A cap l (Hh.out.below hb) (by omega))
    have hxM : ∀ x ∈ rsS l, x.length ≤ 20000 := fun x hm => hx x (hmem.out x hm)
    clear hg hmem hx
    have HM := Lib.hid hM
    clear hM
    generalize rsS l = M at *
    have hMl : M.length ≤ 100 := by omega
    have Kpn := Lib.hid (fun w' b B c (hp : Pl w' b B c M) => pnum_any w' b B c M ask hp HM.out (by omega))
    rw [hP] at Kpn
    have Krn := Lib.hid (fun w' B c (hr : Rd w' B (M.map encStr)) => number_any w' B c M ask hr (by omega))
    rw [hN] at Krn
    obtain ⟨R, hR⟩ : ∃ R, pP M M.length = R := ⟨_, rfl⟩
    have Kw := Lib.hid (fun w' b B c f (hp : Pl w' b B c M) (hw : WA w' f none 0 ([], 0)) => write_new w' b B c M f R hp hw (by omega) hxM (pP_few M (by omega) hxM) hR)
    have Kb := Lib.hid (fun w' B c (hr : Rd w' B (M.map encStr)) => rbytes_any w' B c M hr (by omega) hxM)
    rw [hR] at Kb
    have Ks := Lib.hid (fun w' b B c B' c' (hp : Pl w' b B c M) (hr : Rd w' B' (M.map encStr)) => same_p w' b B B' c c' M hp hr HM.out (by omega))
    clear hP hN hR HM hxM
    go_wp2_with (at_builtin
                 refine wpList_app (n := 0) (m := l.length) rfl (.tmp 18) (.tmp 19) _ rfl (fresh_nil w _) ((Hh.out.below ((Below.refl _ _).alloc (Nat.le_refl _) _))) rfl Hll.out Try.underlying22 Hi.out Hz0.out Hz1.out Hz2.out rfl rfl rfl H1.out (by omega) (by omega) ?_
                 intro A1 cap1 w2 hs1 f1 hb1
                 have HB2 := Lib.hid (fresh_fr f1).all
                 have hs2 : Seg w2 9 A1 cap1 (l.map encStr) := by simpa using hs1
                 have K2 := Lib.hid (Kof.out w2 A1 cap1 hs2.rd)
                 clear hs1 hs2 f1 hb1 Kof
                 rw [Nat.zero_add])
    refine K2.out.mono ?_
    rintro e w3 ⟨b, B, c, rfl, hp, b3⟩
    have HB3 := Lib.hid (on_bel HB2.out b3)
    have HP3 := Lib.hid hp
    clear hp b3 HB2 K2
    go_wp2_with fail
    refine (Krof.out _ HB3.out).mono ?_
    rintro e w4 ⟨A4, c4, rfl, s4, b4⟩
    have HB4 := Lib.hid (on_bel HB3.out b4)
    have HP4 := Lib.hid (HP3.out.below b4)
    have HR4 := Lib.hid s4.rd
    clear s4 b4 HB3 HP3
    go_wp2_with fail
    refine (Kpn.out _ _ _ _ HP4.out).mono ?_
    rintro e w5 ⟨rfl, b5⟩
    have HB5 := Lib.hid (on_bel HB4.out b5)
    have HP5 := Lib.hid (HP4.out.below b5)
    have HR5 := Lib.hid (HR4.out.below b5)
    clear b5 HB4 HP4 HR4
    go_wp2_with fail
    refine (Krn.out _ _ _ HR5.out).mono ?_
    rintro e w6 ⟨rfl, rfl⟩
    have hal : Below w5.heap.size w5 (w5.alloc (.cells #[.slice none 0 0, .int .i64 0] 34)) := (Below.refl _ _).alloc (Nat.le_refl _) _
    have HB6 := Lib.hid (on_bel HB5.out hal)
    have HP6 := Lib.hid (HP5.out.below hal)
    have HR6 := Lib.hid (HR5.out.below hal)
    have HW6 := Lib.hid (new_writer w5)
    have hs5 := HB5.out.size
    clear hal HB5 HP5 HR5
    go_wp2_with fail
    refine (Kw.out _ _ _ _ _ HP6.out HW6.out).mono ?_
    rintro e w7 ⟨rfl, B7, c7, h7⟩
    have HB7 := Lib.hid (below_fr HB6.out h7.fr hs5 (by simp [blk]))
    have hap := apart_new HP6.out HW6.out
    have HP7 := Lib.hid (HP6.out.kept h7.fr hap.b hap.a)
    have HR7 : Hid (Rd w7 A4 (M.map encStr)) := Lib.hid (fun hz => by
      refine HR6.out.kept h7.fr (fun g hg hf => ?_) hz
      simp only [blk, List.mem_cons, List.not_mem_nil, or_false] at hf
      subst hf
      obtain ⟨q, off, rfl, hl, hc⟩ := HR6.out hz
      rw [blk_some, List.mem_singleton] at hg
      subst hg
      have h2 := hc 0 hz
      rw [HW6.out.box.cell] at h2
      rcases off with _ | _ | off
      · simp at h2
      · simp at h2
      · simp at h2)
    have K7 := Lib.hid (done_own h7.wa)
    clear h7 hap HP6 HW6 HR6 HB6 hs5
    go_wp2_with fail
    refine K7.out.mono ?_
    rintro e w8 ⟨rfl, b8⟩
    have HB8 := Lib.hid (on_bel HB7.out b8)
    have HP8 := Lib.hid (HP7.out.below b8)
    have HR8 := Lib.hid (HR7.out.below b8)
    clear b8 HB7 HP7 HR7 K7
    go_wp2_with fail
    refine (pnum_none _ _).mono ?_
    rintro e w9 ⟨rfl, rfl⟩
    have hRR : (R == R) = true := by simp
    have K9 := Lib.hid (Ks.out _ _ _ _ _ c4 HP8.out HR8.out)
    obtain ⟨q, hq⟩ : ∃ q, decide (0 ≤ K) = q := ⟨_, rfl⟩
    have f1 : (ok == q) = true := by
      rw [← hq]
      rcases hcs with ⟨rfl, rfl, rfl⟩ | ⟨rfl, rfl, rfl⟩ | ⟨hk, rfl, rfl⟩
      · rfl
      · rfl
      · rw [decide_eq_true (by omega)]; rfl
    have f2 : (if K < 0 then (0 : Int) else K) = N := by
      rcases hcs with ⟨rfl, rfl, rfl⟩ | ⟨rfl, rfl, rfl⟩ | ⟨hk, rfl, rfl⟩
      · rfl
      · rfl
      · rw [if_neg (by omega)]
    have f3 : (N == N) = true := by simp
    clear hcs
    go_wp2_with fail
    refine K9.out.mono ?_
    rintro e w10 ⟨rfl, b10⟩
    have HB10 := Lib.hid (on_bel HB8.out b10)
    have K11 := Lib.hid (Kb.out _ _ c4 (HR8.out.below b10))
    clear b10
    go_wp2_with fail
    refine K11.out.mono ?_
    rintro e w11 ⟨rfl, b11⟩
    have HB11 := Lib.hid (on_bel HB10.out b11)
    clear b11
    go_wp2_with fail
    refine (plen_none _).mono ?_
    rintro e w12 ⟨rfl, rfl⟩
    go_wp2_with fail
    refine (works_p _).mono ?_
    rintro e w13 ⟨rfl, b13⟩
    have HB13 := Lib.hid (on_bel HB11.out b13)
    clear b13
    go_wp2_with fail
    go_ret
    exact ⟨rfl, HB13.out⟩
end Go.Proofs.Ytcicojobeggdaaa.po
