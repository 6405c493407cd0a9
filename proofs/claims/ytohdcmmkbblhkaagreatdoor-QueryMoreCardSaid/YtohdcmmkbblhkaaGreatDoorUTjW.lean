import Derived.Test.YtohdcmmkbblhkaaGreatDoorV30
import Derived.Deep.OwnRows
import Derived.Deep.DeepCutAuto
import Derived.Laws.OwnMore
/-
  tarjan: all parts: the walk.
-/
set_option linter.all false
namespace Go.Proofs.YtohdcmmkbblhkaaGreatDoor.tj
open Go.RowKit Go.Sort Go.Proofs.YtohdcmmkbblhkaaGreatDoor.mem Go.Proofs.YtohdcmmkbblhkaaGreatDoor.cb

theorem made_iv (k : Nat) : madeCells #[Value.int .i64 0] k = iv (fun _ => 0) k := by
  apply Array.ext'
  rw [toList_madeCells_one]
  unfold iv
  simp [List.map_const']

def ms0 (p : Nat → Int) : MS := ⟨fun _ => 0, fun _ => 0, fun _ => 0, p, [], [], [], 0⟩
def vd0 : Vd := ⟨none, 0, none, 0, none, 0, [], []⟩

/-- a search's memory, before it begins -/
structure Beg (w W : World) (n : Nat) (s a b c d : Nat) (outV : Value) : Prop where
  bs : Box W s 122 #[outV, .slice (some ⟨a, 0, none⟩) n n, .slice (some ⟨b, 0, none⟩) n n, .slice (some ⟨c, 0, none⟩) n n, .slice (some ⟨d, 0, none⟩) n n, .slice none 0 0, .slice none 0 0, .slice none 0 0, .int .i64 0]
  ba : Box W a 3 (iv (fun _ => 0) n)
  bb : Box W b 3 (iv (fun _ => 0) n)
  bc : Box W c 3 (iv (fun _ => 0) n)
  bd : Box W d 3 (iv (fun _ => 0) n)
  ne : a ≠ b ∧ a ≠ c ∧ a ≠ d ∧ b ≠ c ∧ b ≠ d ∧ c ≠ d
  ge : w.heap.size ≤ s ∧ w.heap.size ≤ a ∧ w.heap.size ≤ b ∧ w.heap.size ≤ c ∧ w.heap.size ≤ d
  on : Below w.heap.size w W

def tag5 (s a b c d : Nat) (g : Nat) : Nat := if g = s then 0 else if g = a then 1 else if g = b then 2 else if g = c then 3 else if g = d then 4 else 11

theorem Beg.sm {w W : World} {n s a b c d : Nat} {outV : Value} (h : Beg w W n s a b c d outV) : SM ⟨w.heap.size, n, s, a, b, c, d, outV⟩ W vd0 (ms0 fun _ => 0) := by
  have hs : ∀ q, Box W q 3 (iv (fun _ => 0) n) → q ≠ s := fun q hq e => by
    subst e
    have := h.bs.symm.trans hq
    simp at this
  have sa := hs a h.ba
  have sb := hs b h.bb
  have sc := hs c h.bc
  have sd := hs d h.bd
  obtain ⟨n1, n2, n3, n4, n5, n6⟩ := h.ne
  obtain ⟨g0, g1, g2, g3, g4⟩ := h.ge
  refine ⟨fun j => ?_, rfl, ⟨tag5 s a b c d, ?_⟩, h.on.size⟩
  · match j with
    | 0 => exact h.bs
    | 1 => exact h.ba
    | 2 => exact h.bb
    | 3 => exact h.bc
    | 4 => exact h.bd
    | 5 => exact Seg.nil _ _
    | 6 => exact Seg.nil _ _
    | 7 => exact Seg.nil _ _
    | 8 => intro r hr; cases hr
    | 9 => intro r hr; cases hr
    | j + 10 => trivial
  · refine ⟨by simp [tag5], by simp [tag5, sa], by simp [tag5, sb, Ne.symm n1], by simp [tag5, sc, Ne.symm n2, Ne.symm n4], by simp [tag5, sd, Ne.symm n3, Ne.symm n5, Ne.symm n6], fun g hg => (by cases hg), fun g hg => (by cases hg), fun g hg => (by cases hg), fun r hr => (by cases hr), fun r hr => (by cases hr), fun g _ hlt => ?_⟩
    show w.heap.size ≤ g
    unfold tag5 at hlt
    split at hlt
    · omega
    · split at hlt
      · omega
      · split at hlt
        · omega
        · split at hlt
          · omega
          · split at hlt
            · omega
            · omega

theorem box_alloc {w : World} {g : Nat} {t : TypeId} {cs : Array Value} (h : Box w g t cs) (o : Obj) : Box (w.alloc o) g t cs := h.kept ((Fr.refl [] w).alloc o) (by simp)

/-- four rows made, then the search -/
theorem beg_any (w : World) (n : Nat) (outV : Value) (a b c d : Nat) (ne : a ≠ b ∧ a ≠ c ∧ a ≠ d ∧ b ≠ c ∧ b ≠ d ∧ c ≠ d) (ha : w.heap.size ≤ a ∧ a < w.heap.size + 4) (hb : w.heap.size ≤ b ∧ b < w.heap.size + 4) (hc : w.heap.size ≤ c ∧ c < w.heap.size + 4) (hd : w.heap.size ≤ d ∧ d < w.heap.size + 4) :
    Beg w (((((w.alloc (.cells (iv (fun _ => 0) n) 3)).alloc (.cells (iv (fun _ => 0) n) 3)).alloc (.cells (iv (fun _ => 0) n) 3)).alloc (.cells (iv (fun _ => 0) n) 3)).alloc (.cells #[outV, .slice (some ⟨a, 0, none⟩) n n, .slice (some ⟨b, 0, none⟩) n n, .slice (some ⟨c, 0, none⟩) n n, .slice (some ⟨d, 0, none⟩) n n, .slice none 0 0, .slice none 0 0, .slice none 0 0, .int .i64 0] 122)).drew n (w.heap.size + 1 + 1 + 1 + 1) a b c d outV := by
  generalize hO : Obj.cells (iv (fun _ => 0) n) 3 = O
  have k0 : Box (w.alloc O) w.heap.size 3 (iv (fun _ => 0) n) := by subst hO; exact Box.new _ _ _
  have k1 : Box ((w.alloc O).alloc O) (w.heap.size + 1) 3 (iv (fun _ => 0) n) := by subst hO; have := Box.new (w.alloc (.cells (iv (fun _ => 0) n) 3)) 3 (iv (fun _ => 0) n); rwa [World.size_alloc] at this
  have k2 : Box (((w.alloc O).alloc O).alloc O) (w.heap.size + 1 + 1) 3 (iv (fun _ => 0) n) := by subst hO; have := Box.new ((w.alloc (.cells (iv (fun _ => 0) n) 3)).alloc (.cells (iv (fun _ => 0) n) 3)) 3 (iv (fun _ => 0) n); rwa [World.size_alloc, World.size_alloc] at this
  have k3 : Box ((((w.alloc O).alloc O).alloc O).alloc O) (w.heap.size + 1 + 1 + 1) 3 (iv (fun _ => 0) n) := by subst hO; have := Box.new (((w.alloc (.cells (iv (fun _ => 0) n) 3)).alloc (.cells (iv (fun _ => 0) n) 3)).alloc (.cells (iv (fun _ => 0) n) 3)) 3 (iv (fun _ => 0) n); rwa [World.size_alloc, World.size_alloc, World.size_alloc] at this
  have K0 := box_alloc (box_alloc (box_alloc k0 O) O) O
  have K1 := box_alloc (box_alloc k1 O) O
  have K2 := box_alloc k2 O
  have all : ∀ q, w.heap.size ≤ q ∧ q < w.heap.size + 4 → Box ((((w.alloc O).alloc O).alloc O).alloc O) q 3 (iv (fun _ => 0) n) := by
    intro q hq
    have : q = w.heap.size ∨ q = w.heap.size + 1 ∨ q = w.heap.size + 1 + 1 ∨ q = w.heap.size + 1 + 1 + 1 := by omega
    rcases this with rfl | rfl | rfl | rfl
    · exact K0
    · exact K1
    · exact K2
    · exact k3
  have hon : Below w.heap.size w ((((w.alloc O).alloc O).alloc O).alloc O) := (((((Fr.refl [] w).alloc O).alloc O).alloc O).alloc O).all
  refine ⟨?_, box_alloc (all a ha) _, box_alloc (all b hb) _, box_alloc (all c hc) _, box_alloc (all d hd) _, ne, ⟨by omega, ha.1, hb.1, hc.1, hd.1⟩, (hon.alloc hon.size _).drew⟩
  have := Box.new ((((w.alloc O).alloc O).alloc O).alloc O) 122 #[outV, .slice (some ⟨a, 0, none⟩) n n, .slice (some ⟨b, 0, none⟩) n n, .slice (some ⟨c, 0, none⟩) n n, .slice (some ⟨d, 0, none⟩) n n, .slice none 0 0, .slice none 0 0, .slice none 0 0, .int .i64 0]
  simp only [World.size_alloc] at this
  exact this

/-- the first i without a part -/
def pi_ (i : Nat) : Nat → Int := fun v => if v < i then -1 else 0
theorem pi_succ (i : Nat) : upd (pi_ i) i (-1) = pi_ (i + 1) := by
  funext v
  unfold upd pi_
  by_cases e : v = i
  · subst e; simp
  · simp only [e, if_false]
    by_cases h : v < i
    · rw [if_pos h, if_pos (by omega)]
    · rw [if_neg h, if_neg (by omega)]
theorem pi_zero : pi_ 0 = fun _ => 0 := by funext v; simp [pi_]
theorem pi_all (n : Nat) : iv (pi_ n) n = iv (fun _ => -1) n := by
  unfold iv
  congr 1
  refine List.map_congr_left fun v hv => ?_
  have : v < n := by simpa using hv
  simp [pi_, this]

theorem SM.begun {f : Fx} {W : World} {v : Vd} (h : SM f W v (ms0 (pi_ f.n))) : SM f W v T0.ms := by
  refine ⟨fun j => ?_, h.rw_, h.tg, h.n0⟩
  match j with
  | 0 => exact h.c 0
  | 1 => exact h.c 1
  | 2 => exact h.c 2
  | 3 => exact h.c 3
  | 4 =>
    have := h.c 4
    unfold SMc ms0 at this
    rw [show (MS.mk (fun _ => 0) (fun _ => 0) (fun _ => 0) (pi_ f.n) [] [] [] 0).part = pi_ f.n from rfl, pi_all] at this
    exact this
  | 5 => exact h.c 5
  | 6 => exact h.c 6
  | 7 => exact h.c 7
  | 8 => exact h.c 8
  | 9 => exact h.c 9
  | j + 10 => trivial

/-- parts in memory, and each member's -/
structure PM (W : World) (n0 : Nat) (g : G) (T : TS) (Aq : Option Addr) (cq tp : Nat) (rows : List Row) : Prop where
  pd : Parted2 g T
  xs : rows.map (·.xs) = T.parts
  sq : Seg W 71 Aq cq (rows.map hdr)
  rd : ∀ r ∈ rows, Rd W r.A (natI r.xs)
  bp : Box W tp 3 (iv T.part g.n)
  gq : ∀ x ∈ blk Aq, n0 ≤ x
  gr : ∀ r ∈ rows, 0 < r.xs.length → ∀ x ∈ blk r.A, n0 ≤ x
  gp : n0 ≤ tp

def PtPost (g : G) (w : World) (e : Ending) (W : World) : Prop := ∃ T Aq cq tp rows, e = .returned (.tuple #[.slice Aq T.parts.length cq, .slice (some ⟨tp, 0, none⟩) g.n g.n]) ∧ PM W w.heap.size g T Aq cq tp rows ∧ Below w.heap.size w W

theorem pm_done {g : G} {f : Fx} {o : Nat} {w W : World} {v : Vd} {T : TS} (h : FI g f o w W v T) (hfn : f.n = g.n) (hS : T.S = []) (hall : ∀ x, x < g.n → 0 < T.num x) : PM W f.n0 g T v.Aq v.cq f.tp v.rows := by
  obtain ⟨tag, ht⟩ := h.sm.tg
  obtain ⟨l0, l1, l2, l3, l4, l5, l6, l7, l8, l9⟩ := h.sm.lts
  refine ⟨parted_done h.inv hS hall, h.sm.rw_, h.sm.c 7, h.sm.c 8, ?_, fun x hx => ht.ge x (l7 x hx) (by rw [ht.t7 x hx]; omega), fun r hr hz x hx => ht.ge x (l8 r hr hz x hx) (by rw [ht.t8 r hr hz x hx]; omega), ht.ge f.tp l4 (by rw [ht.t4]; omega)⟩
  have := h.sm.c 4
  unfold SMc at this
  rw [hfn] at this
  exact this

set_option maxRecDepth 100000 in
set_option maxHeartbeats 4000000 in
theorem parted_any (g : G) (hg : g.ok) (hn : g.n ≤ 100) (hel : ∀ u, (g.out u).length ≤ 1000) (w : World) (o : Nat) (hom : OM w w.heap.size o g) :
    Calls Tryz.prog 57 #[.slice (some ⟨o, 0, none⟩) g.n g.n] w (PtPost g w) := by
  obtain ⟨n, hN⟩ : ∃ n, Hid (g.n = n) := ⟨_, Lib.hid rfl⟩
  have hn' : n ≤ 100 := by rw [← hN.out]; exact hn
  have hmk := run_make_row' (P := Tryz.prog) 71 3 (.int .i64 0) 8 Tryz.underlying71 info_int rfl .i64 .i64 n (by omega) (by omega)
  rw [made_iv] at hmk
  rw [hN.out]
  have HOM := Lib.hid hom
  have HEL := Lib.hid hel
  have HG := Lib.hid hg
  clear hom hel hg
  go_enter Tryz.func57, Tryz.ntmps57
  go_upto_region 3 with fail
  go_cut [5] (fun s5 wx => ∃ s a b c d, s5 = .pointer (some ⟨s, 0, none⟩) ∧ Hid (Beg w wx n s a b c d (.slice (some ⟨o, 0, none⟩) n n)))
  case first =>
    go_region
    all_goals (go_wp2_with fail; go_meet)
    all_goals exact ⟨_, _, _, _, _, rfl, Lib.hid (beg_any w n _ _ _ _ _ (by omega) (by omega) (by omega) (by omega) (by omega))⟩
  case rest =>
    obtain ⟨s, a, b, c, d, rfl, hB⟩ := hcut
    rename World => wx
    clear hmk
    obtain ⟨f, hf⟩ : ∃ f : Fx, Hid (f = ⟨w.heap.size, n, s, a, b, c, d, .slice (some ⟨o, 0, none⟩) n n⟩) := ⟨_, Lib.hid rfl⟩
    have hS0 : Hid (SM f wx vd0 (ms0 (pi_ 0)) ∧ Below w.heap.size w wx) := Lib.hid ⟨by rw [hf.out, pi_zero]; exact hB.out.sm, hB.out.on⟩
    have es : s = f.s := by rw [hf.out]
    have ed : d = f.tp := by rw [hf.out]
    have eb : b = f.tn := by rw [hf.out]
    have en : f.n = n := by rw [hf.out]
    have e0 : f.n0 = w.heap.size := by rw [hf.out]
    have eo : f.outV = .slice (some ⟨o, 0, none⟩) n n := by rw [hf.out]
    have HE := Lib.hid (And.intro en (And.intro e0 eo))
    clear hB hf e0 eo
    subst es
    go_wp2_with fail
    go_loopw [22] (fun i wr => ∃ j : Nat, j ≤ n ∧ i = .int .i64 j ∧ Hid (SM f wr vd0 (ms0 (pi_ j)) ∧ Below w.heap.size w wr)) (fun i _ => n - (intOf i).toNat)
    case atStart => exact ⟨0, by omega, rfl, hS0⟩
    case round =>
      obtain ⟨j, hj, rfl, h⟩ := hrel
      clear hS0
      rename_i wr _
      by_cases hjn : j < n
      · have d1 : decide ((j : Int) < (n : Int)) = true := decide_eq_true (by omega)
        have hjI : (j : Int) < (n : Int) := by omega
        obtain ⟨c0, c1, c2, c3, c4, c5, c6, c7, c8⟩ := h.out.1.cells
        have hjf : j < f.n := by omega
        obtain ⟨pt0, pt'⟩ := h.out.1.part hjf
        have hs := h.out.1.setPart j (-1)
        have hs2 : Hid (SM f (wr.setCell ⟨f.tp, j, none⟩ (.int .i64 (-1))) vd0 (ms0 (pi_ (j + 1))) ∧ Below w.heap.size w (wr.setCell ⟨f.tp, j, none⟩ (.int .i64 (-1)))) := Lib.hid ⟨by rw [← pi_succ]; exact hs.1, h.out.2.trans (by rw [← HE.out.2.1]; exact hs.2)⟩
        rw [en] at c4
        clear hs c0 c1 c2 c3 c5 c6 c7 c8 h
        go_wp2_with fail
        go_roundw
        case rel => exact ⟨j + 1, by omega, by go_num, hs2⟩
        case measure => simp [intOf]; omega
      · obtain rfl : j = n := by omega
        have d1 : decide ((j : Int) < (j : Int)) = false := decide_eq_false (by omega)
        have hI : Hid (FI g f o w wr vd0 T0) := Lib.hid ⟨inv0 g, by have := h.out.1; rw [← HE.out.1] at this; exact this.begun, rfl, by rw [HE.out.2.1]; exact h.out.2, by rw [HE.out.2.1]; exact HOM.out.below h.out.2⟩
        clear h
        go_wp2_with fail
        go_loopw [33] (fun i wr => ∃ k : Nat, k ≤ j ∧ i = .int .i64 k ∧ ∃ v T, Hid (FI g f o w wr v T) ∧ Hid (T.S = [] ∧ ∀ x, x < k → 0 < T.num x)) (fun i _ => j - (intOf i).toNat)
        case atStart => exact ⟨0, by omega, rfl, _, _, hI, Lib.hid ⟨rfl, fun x hx => by omega⟩⟩
        case round =>
          obtain ⟨k, hk, rfl, v, T, hI2, hT⟩ := hrel
          clear hI
          rename World => wt
          by_cases hkj : k < j
          · have d1 : decide ((k : Int) < (j : Int)) = true := decide_eq_true (by omega)
            have hkI : (k : Int) < (j : Int) := by omega
            obtain ⟨c0, c1, c2, c3, c4, c5, c6, c7, c8⟩ := hI2.out.sm.cells
            have hkf : k < f.n := by omega
            obtain ⟨nt0, nt'⟩ := hI2.out.sm.num hkf
            have nt : wt.cell? ⟨f.tn, k, none⟩ = some (.int .i64 ((T.num k : Nat) : Int)) := nt0
            rw [en] at c2
            clear nt0 c0 c1 c3 c4 c5 c6 c7 c8
            by_cases hz : T.num k = 0
            · have d2 : (((T.num k : Nat) : Int) == 0) = true := by rw [hz]; rfl
              have KF := Lib.hid (from_any g HG.out hn f (by rw [HE.out.1, hN.out]) o (by rw [HE.out.2.2, hN.out]) wt v T ⟨hI2.out.inv, hI2.out.sm, hI2.out.pe, Below.refl _ _, hI2.out.om⟩ hT.out.1 k (by rw [hN.out]; exact hkj) hz HEL.out)
              have hon := Lib.hid hI2.out.on
              have hS2 := Lib.hid hT.out.2
              clear hI2 hT
              go_wp2_with fail
              refine KF.out.mono ?_
              rintro e w2 ⟨rfl, v2, T2, h2, hs2, hp2, hq2⟩
              have hI3 : Hid (FI g f o w w2 v2 T2) := Lib.hid ⟨h2.inv, h2.sm, h2.pe, hon.out.trans h2.on, h2.om⟩
              have hT3 : Hid (T2.S = [] ∧ ∀ x, x < k + 1 → 0 < T2.num x) := Lib.hid ⟨hs2, fun x hx => by
                by_cases e : x = k
                · subst e; exact hp2
                · exact hq2 x (hS2.out x (by omega))⟩
              clear h2 hs2 hp2 hq2 KF hon hS2 nt nt' c2
              go_wp2_with fail
              go_roundw
              case rel => exact ⟨k + 1, by omega, by go_num, v2, T2, hI3, hT3⟩
              case measure => simp [intOf]; omega
            · have d2 : (((T.num k : Nat) : Int) == 0) = false := by simp; omega
              go_wp2_with fail
              go_roundw
              case rel => exact ⟨k + 1, by omega, by go_num, v, T, hI2, Lib.hid ⟨hT.out.1, fun x hx => by
                by_cases e : x = k
                · subst e; omega
                · exact hT.out.2 x (by omega)⟩⟩
              case measure => simp [intOf]; omega
          · obtain rfl : k = j := by omega
            have d1 : decide ((k : Int) < (k : Int)) = false := decide_eq_false (by omega)
            obtain ⟨c0, c1, c2, c3, c4, c5, c6, c7, c8⟩ := hI2.out.sm.cells
            rw [en] at c4
            have hd := hI2.out.below (((Fr.refl [] wt).drew).all)
            have hpost : Hid (PtPost g w (.returned (.tuple #[.slice v.Aq T.ms.parts.length v.cq, .slice (some ⟨f.tp, 0, none⟩) k k])) wt.drew) := Lib.hid (by
              refine ⟨T, v.Aq, v.cq, f.tp, v.rows, by rw [hN.out]; rfl, ?_, ?_⟩
              · rw [← HE.out.2.1]
                exact pm_done hd (by rw [HE.out.1, hN.out]) hT.out.1 (fun x hx => hT.out.2 x (by rw [hN.out] at hx; exact hx))
              · have := hd.on
                rwa [HE.out.2.1] at this)
            clear hI2 hT hd
            go_wp2_with fail
            go_region
            go_wp2_with fail
            go_ret2
            exact hpost.out
end Go.Proofs.YtohdcmmkbblhkaaGreatDoor.tj
