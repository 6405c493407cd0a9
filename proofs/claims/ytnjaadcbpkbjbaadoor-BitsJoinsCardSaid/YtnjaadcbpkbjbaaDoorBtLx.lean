/-
  Bits: joined both ways two sets come to the same: the law's walk.
-/
import Derived.Test.YtnjaadcbpkbjbaaDoorBtLv
import Derived.Test.YtnjaadcbpkbjbaaDoorBtU
namespace Go.Proofs.YtnjaadcbpkbjbaaDoor.bt
open Go.RowKit Go.Shelf Go.Sort Go.Proofs.YtnjaadcbpkbjbaaDoor.mem

theorem of_len (xs : List Int) : (flat (ofB xs)).length ≤ xs.length := by
  have := srt_len_le (L := flat (ofB xs)) (U := xs.map Int.toNat) (srt_flat (ofB_ok xs).rise) (fun x hx => by
    obtain ⟨n, h1, _, rfl⟩ := ofB_mem.1 hx
    exact List.mem_map.2 ⟨n, h1, rfl⟩)
  simpa using this

theorem or_len {B C : List Blk} (hB : Ok B) (hC : Ok C) : (flat C).length + misN (prs C B) = (flat (orB B C)).length := by
  rw [or_swap hB hC, len_orB hC hB]

set_option maxRecDepth 100000 in
set_option maxHeartbeats 4000000 in
theorem law_joins (A A2 : Option Addr) (cap cap2 : Nat) (l m : List Int) (stop : Int) (w : World) (h : Rd w A (l.map eI)) (h2 : Rd w A2 (m.map eI)) (hll : l.length ≤ 9223372036854775807) (hml : m.length ≤ 9223372036854775807) (hT : TabB w) (hz : 0 < w.heap.size) :
    Calls Tryd.prog 4 #[.slice A l.length cap, .slice A2 m.length cap2, .int .i64 stop] w (DoesPost w) := by
  have H := Lib.hid h
  have H2 := Lib.hid h2
  have HT := Lib.hid hT
  have HZ := Lib.hid hz
  have fin := Lib.hid (fun w' (h : Below w.heap.size w w') => show DoesPost w (.returned (.bool true)) w' from ⟨rfl, h⟩)
  have S0 := Lib.hid (show Live w (w.alloc (.cells #[.int .i64 stop] 3)) (.int .i64 stop) [] from ⟨(Below.refl _ w).alloc (Nat.le_refl _) _, Box.new w _ _, fun x hx => by cases hx⟩)
  have KW := Lib.hid (fun W => works_any W)
  have Z1 := Lib.hid (show w.heap.size < (w.alloc (.cells #[.int .i64 stop] 3)).heap.size from by simp)
  obtain ⟨w1, hw1⟩ : ∃ w1, w1 = w.alloc (.cells #[.int .i64 stop] 3) := ⟨_, rfl⟩
  rw [← hw1] at S0 Z1
  have HW1 := Lib.hid hw1
  clear h h2 hT hz hw1
  go_enter Tryd.func4, Tryd.ntmps4
  go_wp2_with fail
  rw [← HW1.out]
  refine (KW.out w1).mono ?_
  rintro e w2 ⟨rfl, b2⟩
  have S2 := Lib.hid (S0.out.below b2)
  have Z2 := Lib.hid (Nat.lt_of_lt_of_le Z1.out b2.size)
  clear b2 S0 Z1 HW1 KW
  obtain ⟨n0, hn0⟩ : ∃ n0, Hid (n0 = w.heap.size) := ⟨_, Lib.hid rfl⟩
  by_cases hl : l.length ≤ 200
  rotate_left
  · have hd1 : decide (200 < (l.length : Int)) = true := decide_eq_true (by omega)
    have HF := Lib.hid (fin.out w2 S2.out.on)
    go_wp2_with fail
    go_ret
    exact HF.out
  have hd1 : decide (200 < (l.length : Int)) = false := decide_eq_false (by omega)
  by_cases hm : m.length ≤ 200
  rotate_left
  · have hd2 : decide (200 < (m.length : Int)) = true := decide_eq_true (by omega)
    have HF := Lib.hid (fin.out w2 S2.out.on)
    go_wp2_with fail
    go_ret
    exact HF.out
  have hd2 : decide (200 < (m.length : Int)) = false := decide_eq_false (by omega)
  have HB := Lib.hid (ofB_ok l)
  have HC := Lib.hid (ofB_ok m)
  have lB := of_len l
  have lC := of_len m
  have KB := Lib.hid (fun W L (S : Live w W (.int .i64 stop) L) => l_of S A cap l (by omega) H.out)
  have KC := Lib.hid (fun W L (S : Live w W (.int .i64 stop) L) => l_of S A2 cap2 m (by omega) H2.out)
  have HCs := Lib.hid (fun y (hy : y ∈ flat (ofB m)) => show y ≤ 268435456 from by
    obtain ⟨n, _, h1, rfl⟩ := ofB_mem.1 hy
    unfold mayB at h1
    simp at h1
    omega)
  generalize ofB l = B at *
  generalize ofB m = C at *
  go_wp2_with fail
  refine (KB.out _ _ S2.out).mono ?_
  rintro e w3 ⟨sa, rfl, z, s⟩
  have S3 := Lib.hid s
  have Z3 := Lib.hid z
  clear z s S2
  go_wp2_with fail
  refine (KC.out _ _ S3.out).mono ?_
  rintro e w4 ⟨sb, rfl, z, s⟩
  have S4 := Lib.hid s
  have Z4 := Lib.hid z
  clear z s S3
  go_wp2_with fail
  refine (l_less S4.out (List.mem_cons_of_mem _ List.mem_cons_self) List.mem_cons_self).mono ?_
  rintro e w5 ⟨sx, rfl, z, s⟩
  have S5 := Lib.hid s
  have Z5 := Lib.hid z
  clear z s S4
  go_wp2_with fail
  refine (l_both S5.out (List.mem_cons_of_mem _ (List.mem_cons_of_mem _ List.mem_cons_self)) (List.mem_cons_of_mem _ List.mem_cons_self)).mono ?_
  rintro e w6 ⟨sy, rfl, z, s⟩
  have S6 := Lib.hid s
  have Z6 := Lib.hid z
  clear z s S5
  have hpar := Lib.hid (len_parted HB.out HC.out)
  obtain ⟨lx, hlx⟩ : ∃ lx, Hid ((flat (lessB B C)).length = lx) := ⟨_, Lib.hid rfl⟩
  obtain ⟨ly, hly⟩ : ∃ ly, Hid ((flat (bothB B C)).length = ly) := ⟨_, Lib.hid rfl⟩
  obtain ⟨la, hla⟩ : ∃ la, Hid ((flat B).length = la) := ⟨_, Lib.hid rfl⟩
  have hsum : lx + ly = la := by have := hpar.out; rw [hlx.out, hly.out, hla.out] at this; exact this
  have hla2 : la ≤ 200 := by have := hla.out; omega
  have dsum : ((lx : Int) + (ly : Int) != (la : Int)) = false := by simp; omega
  have hwr : IntKind.i64.wrap ((lx : Int) + (ly : Int)) = (lx : Int) + (ly : Int) := IntWalk.i64_in _ (by omega)
  go_wp2_with fail
  have K := l_len S6.out (List.mem_cons_of_mem _ List.mem_cons_self); rw [hlx.out] at K
  refine (K).mono ?_
  rintro e w7 ⟨rfl, z, s⟩
  have S7 := Lib.hid s
  have Z7 := Lib.hid z
  clear z s S6
  clear K
  go_wp2_with fail
  have K := l_len S7.out List.mem_cons_self; rw [hly.out] at K
  refine (K).mono ?_
  rintro e w8 ⟨rfl, z, s⟩
  have S8 := Lib.hid s
  have Z8 := Lib.hid z
  clear z s S7
  clear K
  go_wp2_with fail
  have K := l_len S8.out (List.mem_cons_of_mem _ (List.mem_cons_of_mem _ (List.mem_cons_of_mem _ List.mem_cons_self))); rw [hla.out] at K
  refine (K).mono ?_
  rintro e w9 ⟨rfl, z, s⟩
  have S9 := Lib.hid s
  have Z9 := Lib.hid z
  clear z s S8
  clear K
  go_wp2_with fail
  refine (l_both S9.out (List.mem_cons_of_mem _ List.mem_cons_self) List.mem_cons_self).mono ?_
  rintro e w10 ⟨sz, rfl, z, s⟩
  have S10 := Lib.hid s
  have Z10 := Lib.hid z
  clear z s S9
  go_wp2_with fail
  have K := l_len S10.out List.mem_cons_self; rw [none_both HB.out HC.out] at K
  refine (K).mono ?_
  rintro e w11 ⟨rfl, z, s⟩
  have S11 := Lib.hid s
  have Z11 := Lib.hid z
  clear z s S10
  clear K
  go_wp2_with fail
  have K := l_join S11.out (M := [(sb, IV w3.heap.size w4.heap.size, C), (sa, IV w2.heap.size w3.heap.size, B)]) (List.mem_cons_of_mem _ (List.mem_cons_of_mem _ List.mem_cons_self)) (List.mem_cons_of_mem _ List.mem_cons_self) (by simp) (by intro x hx g hg h1 h2; have zz := Z2.out; have a3 := Z3.out; have a4 := Z4.out; have a5 := Z5.out; have a6 := Z6.out; have a7 := Z7.out; have a8 := Z8.out; have a9 := Z9.out; have a10 := Z10.out; have a11 := Z11.out; simp only [List.mem_cons, List.not_mem_nil, or_false] at hx; rcases hx with rfl | rfl <;> (simp only [IV] at h1 h2; omega)) (by intro g h1; have zz := Z2.out; have a3 := Z3.out; have a4 := Z4.out; have a5 := Z5.out; have a6 := Z6.out; have a7 := Z7.out; have a8 := Z8.out; have a9 := Z9.out; have a10 := Z10.out; have a11 := Z11.out; simp only [IV] at h1; omega)
  refine (K).mono ?_
  rintro e w12 ⟨rfl, z, s⟩
  have S12 := Lib.hid s
  have Z12 := Lib.hid z
  clear z s S11
  clear K
  go_wp2_with fail
  refine (l_same S12.out List.mem_cons_self (List.mem_cons_of_mem _ (List.mem_cons_of_mem _ List.mem_cons_self)) (or_parted HB.out HC.out)).mono ?_
  rintro e w13 ⟨rfl, z, s⟩
  have S13 := Lib.hid s
  have Z13 := Lib.hid z
  clear z s S12
  go_wp2_with fail
  refine (KC.out _ _ S13.out).mono ?_
  rintro e w14 ⟨sc, rfl, z, s⟩
  have S14 := Lib.hid s
  have Z14 := Lib.hid z
  clear z s S13
  obtain ⟨lk, hlk⟩ : ∃ lk, Hid (misN (prs C B) = lk) := ⟨_, Lib.hid rfl⟩
  obtain ⟨lb, hlb⟩ : ∃ lb, Hid ((flat C).length = lb) := ⟨_, Lib.hid rfl⟩
  obtain ⟨lo, hlo⟩ : ∃ lo, Hid ((flat (orB B C)).length = lo) := ⟨_, Lib.hid rfl⟩
  have hsum2 : lb + lk = lo := by have := or_len HB.out HC.out; rw [hlk.out, hlb.out, hlo.out] at this; exact this
  have hlo2 : lo ≤ 400 := by
    have h1 := len_orB HB.out HC.out
    have h2 := hpar.out
    have h3 := joinN_le (flat C) (flat B)
    have h4 := misN_join HB.out HC.out (fun y hy => HCs.out y hy)
    rw [hlo.out] at h1
    omega
  have dsum2 : ((lo : Int) != (lb : Int) + (lk : Int)) = false := by simp; omega
  have hwr2 : IntKind.i64.wrap ((lb : Int) + (lk : Int)) = (lb : Int) + (lk : Int) := IntWalk.i64_in _ (by omega)
  obtain ⟨ln, hln⟩ : ∃ ln, Hid (misN (prs B C) = ln) := ⟨_, Lib.hid rfl⟩
  have hneg : decide ((ln : Int) < 0) = false := decide_eq_false (by omega)
  go_wp2_with fail
  have K := l_join S14.out (M := [(sc, IV w13.heap.size w14.heap.size, C), (sb, IV w3.heap.size w4.heap.size, C)]) (List.mem_cons_of_mem _ (List.mem_cons_of_mem _ (List.mem_cons_of_mem _ List.mem_cons_self))) (List.mem_cons_of_mem _ (List.mem_cons_of_mem _ List.mem_cons_self)) (by simp) (by intro x hx g hg h1 h2; have zz := Z2.out; have a3 := Z3.out; have a4 := Z4.out; have a5 := Z5.out; have a6 := Z6.out; have a7 := Z7.out; have a8 := Z8.out; have a9 := Z9.out; have a10 := Z10.out; have a11 := Z11.out; have a12 := Z12.out; have a13 := Z13.out; have a14 := Z14.out; simp only [List.mem_cons, List.not_mem_nil, or_false] at hx; rcases hx with rfl | rfl <;> (simp only [IV] at h1 h2; omega)) (by intro g h1; have zz := Z2.out; have a3 := Z3.out; have a4 := Z4.out; have a5 := Z5.out; have a6 := Z6.out; have a7 := Z7.out; have a8 := Z8.out; have a9 := Z9.out; have a10 := Z10.out; have a11 := Z11.out; have a12 := Z12.out; have a13 := Z13.out; have a14 := Z14.out; simp only [IV] at h1; omega); rw [hln.out] at K
  refine (K).mono ?_
  rintro e w15 ⟨rfl, z, s⟩
  have S15 := Lib.hid s
  have Z15 := Lib.hid z
  clear z s S14
  clear K
  go_wp2_with fail
  refine (KB.out _ _ S15.out).mono ?_
  rintro e w16 ⟨sd, rfl, z, s⟩
  have S16 := Lib.hid s
  have Z16 := Lib.hid z
  clear z s S15
  go_wp2_with fail
  have K := l_join S16.out (M := [(sa, fun g => IV w2.heap.size w3.heap.size g ∨ w14.heap.size ≤ g, orB B C), (sb, IV w3.heap.size w4.heap.size, C)]) (List.mem_cons_of_mem _ (List.mem_cons_of_mem _ List.mem_cons_self)) List.mem_cons_self (by simp) (by intro x hx g hg h1 h2; have zz := Z2.out; have a3 := Z3.out; have a4 := Z4.out; have a5 := Z5.out; have a6 := Z6.out; have a7 := Z7.out; have a8 := Z8.out; have a9 := Z9.out; have a10 := Z10.out; have a11 := Z11.out; have a12 := Z12.out; have a13 := Z13.out; have a14 := Z14.out; have a15 := Z15.out; have a16 := Z16.out; simp only [List.mem_cons, List.not_mem_nil, or_false] at hx; rcases hx with rfl | rfl <;> (simp only [IV] at h1 h2; omega)) (by intro g h1; have zz := Z2.out; have a3 := Z3.out; have a4 := Z4.out; have a5 := Z5.out; have a6 := Z6.out; have a7 := Z7.out; have a8 := Z8.out; have a9 := Z9.out; have a10 := Z10.out; have a11 := Z11.out; have a12 := Z12.out; have a13 := Z13.out; have a14 := Z14.out; have a15 := Z15.out; have a16 := Z16.out; simp only [IV] at h1; omega); rw [hlk.out] at K
  refine (K).mono ?_
  rintro e w17 ⟨rfl, z, s⟩
  have S17 := Lib.hid s
  have Z17 := Lib.hid z
  clear z s S16
  clear K
  go_wp2_with fail
  refine (l_same S17.out (List.mem_cons_of_mem _ List.mem_cons_self) List.mem_cons_self (or_swap HB.out HC.out)).mono ?_
  rintro e w18 ⟨rfl, z, s⟩
  have S18 := Lib.hid s
  have Z18 := Lib.hid z
  clear z s S17
  go_wp2_with fail
  have K := l_len S18.out (List.mem_cons_of_mem _ List.mem_cons_self); rw [hlo.out] at K
  refine (K).mono ?_
  rintro e w19 ⟨rfl, z, s⟩
  have S19 := Lib.hid s
  have Z19 := Lib.hid z
  clear z s S18
  clear K
  go_wp2_with fail
  have K := l_len S19.out (List.mem_cons_of_mem _ (List.mem_cons_of_mem _ List.mem_cons_self)); rw [hlb.out] at K
  refine (K).mono ?_
  rintro e w20 ⟨rfl, z, s⟩
  have S20 := Lib.hid s
  have Z20 := Lib.hid z
  clear z s S19
  clear K
  have SA20 := Lib.hid (S20.out.one (Q := fun g => w.heap.size < g ∧ g < w20.heap.size) (List.mem_cons_of_mem _ List.mem_cons_self) (by intro g hg h1; have zz := Z2.out; have a3 := Z3.out; have a4 := Z4.out; have a5 := Z5.out; have a6 := Z6.out; have a7 := Z7.out; have a8 := Z8.out; have a9 := Z9.out; have a10 := Z10.out; have a11 := Z11.out; have a12 := Z12.out; have a13 := Z13.out; have a14 := Z14.out; have a15 := Z15.out; have a16 := Z16.out; have a17 := Z17.out; have a18 := Z18.out; have a19 := Z19.out; have a20 := Z20.out; simp only [IV] at h1; omega))
  clear S20
  have z20 : w.heap.size < w20.heap.size := by have h1 := SA20.out.bx.lt; exact Nat.lt_of_le_of_lt (Nat.le_refl _) h1
  have hst := rem20_lt stop
  go_upto_region 17 with fail
  obtain ⟨w21, hw21⟩ : ∃ w21, Hid (w21 = w20.alloc (.cells #[.int .i64 0] 3)) := ⟨_, Lib.hid rfl⟩
  have L21 := Lib.hid (show Live w w21 (.int .i64 stop) _ ∧ Box w21 w20.heap.size 3 #[.int .i64 ((0 : Nat) : Int)] from by
    rw [hw21.out]
    exact ⟨SA20.out.below ((Below.refl _ _).alloc (Nat.le_refl _) _), Box.new w20 _ _⟩)
  rw [← hw21.out]
  have c5 : w21.cell? ⟨w.heap.size, 0, none⟩ = some (.int .i64 stop) := L21.out.1.bx.cell 0
  have f5 : w21.frozen? ⟨w.heap.size, 0, none⟩ = false := L21.out.1.bx.free 0
  clear hw21 SA20
  go_upto_region 18 with fail
  rw [rem20_eq]
  have L22 := Lib.hid (show Live w (w21.setCell ⟨w.heap.size, 0, none⟩ (.int .i64 ((rem20 stop : Nat) : Int))) (.int .i64 ((rem20 stop : Nat) : Int)) _ ∧ Box (w21.setCell ⟨w.heap.size, 0, none⟩ (.int .i64 ((rem20 stop : Nat) : Int))) w20.heap.size 3 #[.int .i64 ((0 : Nat) : Int)] from
    ⟨live_put L21.out.1 (by intro x hx g h1; obtain rfl := List.mem_singleton.1 hx; exact h1.1), L21.out.2.kept ((Fr.refl [w.heap.size] w21).setCell (Or.inl (by simp)) _) (by simp; omega)⟩)
  clear c5 f5 L21
  generalize w21.setCell ⟨w.heap.size, 0, none⟩ (.int .i64 ((rem20 stop : Nat) : Int)) = w22 at *
  generalize rem20 stop = st at *
  go_wp2_with fail
  refine (each_any w22 sa).mono ?_
  rintro e w23 ⟨rfl, rfl⟩
  have hfr : Fr [] w22 (w22.alloc (.cells #[.pointer (some ⟨sa, 0, none⟩)] 23)) := (Fr.refl [] w22).alloc _
  have KE := Lib.hid (l_each (L22.out.1.below ((Below.refl _ _).alloc (Nat.le_refl _) _)) HT.out HZ.out List.mem_cons_self rfl hst (new_cell w22 (.pointer (some ⟨sa, 0, none⟩)) 23) (L22.out.2.kept hfr (by simp)) z20 (fun p hp e => by have := hp.2; omega))
  rw [hlo.out] at KE
  clear hfr L22
  go_wp2_with fail
  refine KE.out.mono ?_
  rintro e w24 ⟨rfl, h24, hb⟩
  have L24 := Lib.hid h24
  have HF : Hid (∀ (d : Nat) (os : Array Obj), Calls Tryd.prog 11 #[.pointer (some ⟨sa, 0, none⟩)] (Go.Sort.grow (redrawn w24 d) os) fun e w'' => e = .returned (.int .i64 (lo : Nat)) ∧ ∃ p : Regrown, w'' = Go.Sort.grow (redrawn w24 p.d) p.os) := Lib.hid (fun d os => Calls.regrown_of (by
    have K := x_len ((L24.out.sx _ List.mem_cons_self).below (below_regrown w24 d os))
    rw [hlo.out] at K
    exact K))
  have hmin : Hid (min ((st : Int) + 1) (lo : Int) = ((min (st + 1) lo : Nat) : Int)) := Lib.hid (by omega)
  have c14 := cell_regrown (w := w24) (hb.cell 0)
  have c5 := cell_regrown (w := w24) (L24.out.bx.cell 0)
  have FB : Hid (∀ d os, Below w.heap.size w (Go.Sort.grow (redrawn w24 d) os)) := Lib.hid (fun d os => L24.out.on.trans ((below_regrown w24 d os).mono L24.out.on.size))
  have HM : Hid ((((min (st + 1) lo : Nat) : Int) == min (IntKind.i64.wrap ((st : Int) + 1)) (lo : Int)) = true) := Lib.hid (by rw [show IntKind.i64.wrap ((st : Int) + 1) = (st : Int) + 1 from IntWalk.i64_in _ (by omega), hmin.out]; simp)
  clear hmin
  generalize min (st + 1) lo = mn at *
  clear h24 hb KE
  go_wp2_with fail
  refine wp_region_quiet_below (by kernel_rfl) (by kernel_rfl) ?_
  repeat (quiet_step (exact HF.out _ _))
  refine wpQuiet_nil ?_
  intro _ hw'
  obtain ⟨⟨dq, osq⟩, hw''⟩ := hw'
  subst hw''
  have hfin := fin.out _ (FB.out dq osq)
  go_wp2_with fail
  go_ret
  show DoesPost w (.returned (.bool _)) _
  rw [HM.out]
  exact hfin
end Go.Proofs.YtnjaadcbpkbjbaaDoor.bt
