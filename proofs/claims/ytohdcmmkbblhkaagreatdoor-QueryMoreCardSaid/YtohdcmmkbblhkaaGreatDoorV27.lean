import Derived.Test.YtohdcmmkbblhkaaGreatDoorUTj1
import Derived.Test.YtohdcmmkbblhkaaGreatDoorV18
import Derived.Deep.RegionLaw
import Derived.Deep.DeepCutAuto
import Derived.Deep.CutRange
import Derived.Handy
/-
  tarjan: the edges, laid at their members: the walk.
-/
set_option linter.all false
namespace Go.Proofs.YtohdcmmkbblhkaaGreatDoor.tj
open Go.RowKit Go.Proofs.YtohdcmmkbblhkaaGreatDoor.mem

theorem info_row2 : (Tryz.prog.info? 71).map (fun i => (i.zero, i.size, i.bytes)) = some (some (.slice none 0 0), 1, 24) := by kernel_rfl

set_option maxRecDepth 100000 in
theorem member_any (n k : Int) (w : World) :
    Calls Tryz.prog 77 #[.int .i64 n, .int .i64 k] w fun e w' => e = .returned (.bool (inG n k)) ∧ w = w' := by
  by_cases h0 : 0 ≤ k
  · have d0 : decide (0 ≤ k) = true := decide_eq_true h0
    have hr := Lib.hid (show decide (k < n) = inG n k by simp [inG, h0])
    go_enter Tryz.func77, Tryz.ntmps77
    go_wp2_with fail
    go_ret
    exact ⟨congrArg (fun b => Ending.returned (.bool b)) hr.out, rfl⟩
  · have d0 : decide (0 ≤ k) = false := decide_eq_false h0
    have hr := Lib.hid (show false = inG n k by simp [inG, h0])
    go_enter Tryz.func77, Tryz.ntmps77
    go_wp2_with fail
    go_ret
    exact ⟨congrArg (fun b => Ending.returned (.bool b)) hr.out, rfl⟩

/-- what the edges so far have come to -/
structure OU (w W : World) (n : Int) (l : List (Int × Int)) (o k : Nat) (rows : Nat → Row) : Prop where
  rg : RG W w.heap.size o n.toNat rows []
  xs : ∀ i, i < n.toNat → (rows i).xs = outN n l k i
  on : Below w.heap.size w W

def OuPost (w : World) (n : Int) (l : List (Int × Int)) (e : Ending) (W : World) : Prop := ∃ o rows, e = .returned (.tuple #[.slice (some ⟨o, 0, none⟩) n.toNat n.toNat, .bool true]) ∧ OU w W n l o l.length rows

theorem OU.next {w W : World} {n : Int} {l : List (Int × Int)} {o k : Nat} {rows : Nat → Row} (h : OU w W n l o k rows) (hk : k < l.length) (hn : inE n l[k] = false) {W' : World} (hb : Below W.heap.size W W') : OU w W' n l o (k + 1) rows :=
  ⟨h.rg.on hb, fun i hi => by rw [outN_no hk hn]; exact h.xs i hi, h.on.trans (hb.mono h.on.size)⟩

theorem OU.put {w W W1 : World} {n : Int} {l : List (Int × Int)} {o k : Nat} {rows : Nat → Row} (h : OU w W n l o k rows) {a c : Nat} (ha : a < n.toNat) (hnx : outN n l (k + 1) = upd (outN n l k) a (outN n l k a ++ [c])) {A' : Option Addr} {c' m : Nat} (hm : m = (rows a).xs.length + 1) (hs : Seg W1 3 A' c' (natI (rows a).xs ++ [.int .i64 (c : Nat)])) (hf : Fr (blk (rows a).A) W W1) (hg : ∀ g ∈ blk A', g ∈ blk (rows a).A ∨ W.heap.size ≤ g) :
    OU w (W1.setCell ⟨o, a, none⟩ (.slice A' m c')) n l o (k + 1) (upd rows a ⟨A', c', (rows a).xs ++ [c]⟩) := by
  rw [natI_snoc] at hs
  obtain ⟨p1, p2⟩ := h.rg.push h.on.size ha hm hs hf hg
  refine ⟨p1, fun i hi => ?_, h.on.trans (p2.below (fun g hg => ?_) h.on.size)⟩
  · rw [hnx]
    by_cases e : i = a
    · subst e; rw [upd_same, upd_same, h.xs i hi]
    · rw [upd_ne _ _ e, upd_ne _ _ e]; exact h.xs i hi
  · rcases List.mem_cons.1 hg with rfl | hg
    · exact h.rg.gb
    · exact h.rg.ge a ha g hg

set_option maxRecDepth 100000 in
set_option maxHeartbeats 2000000 in
theorem outs_any (n : Int) (hn : n ≤ 100) (A : Option Addr) (cap : Nat) (l : List (Int × Int)) (hl : l.length ≤ 1000) (w : World) (h : Eds w A l) :
    Calls Tryz.prog 56 #[.int .i64 n, .slice A l.length cap] w (OuPost w n l) := by
  obtain ⟨m, hm⟩ : ∃ m, Hid (n.toNat = m) := ⟨_, Lib.hid rfl⟩
  have hm' : m ≤ 100 := by have := hm.out; omega
  have hmk := run_make_row' (P := Tryz.prog) 69 71 (.slice none 0 0) 24 Tryz.underlying69 info_row2 rfl .i64 .i64 m (by omega) (by omega)
  rw [made_rv] at hmk
  have H := Lib.hid h
  have d0 : decide (20000 < n) = false := decide_eq_false (by omega)
  clear h
  go_enter Tryz.func56, Tryz.ntmps56
  go_upto_region 3 with fail
  go_cut [0] (fun s0 wx => s0 = .int .i64 (m : Int) ∧ w = wx)
  case first =>
    clear hmk
    by_cases h1 : n < 0
    · have h2 : ¬ (0 < n) := by omega
      have h3 : ¬ (0 ≤ n) := by omega
      have h4 : n ≤ 0 := by omega
      have h5 := Lib.hid (show Value.int .i64 0 = .int .i64 (m : Int) by have := hm.out; congr 1; omega)
      go_wp2_with fail
      go_meet
      exact ⟨h5.out, rfl⟩
    · have h3 : 0 ≤ n := by omega
      have h5 := Lib.hid (show n = (m : Int) by have := hm.out; omega)
      go_wp2_with fail
      all_goals (go_meet; first | exact ⟨by rw [h5.out], rfl⟩ | exact ⟨by congr 1; have := h5.out; omega, rfl⟩)
  case rest =>
    obtain ⟨rfl, rfl⟩ := hcut
    have hB : Hid (OU w (w.alloc (.cells (rv (fun _ => row0) m) 71)) n l w.heap.size 0 (fun _ => row0)) := Lib.hid (by
      refine ⟨?_, fun i hi => by rw [outN_zero]; rfl, (Below.refl _ _).alloc (Nat.le_refl _) _⟩
      rw [hm.out]
      exact rg_new (w := w) (Box.new _ _ _) (Nat.le_refl _) (fun x hx => by cases hx) (by simp))
    go_wp2_with fail
    go_loopw [17] (fun i wr => ∃ (k : Nat) (rows : Nat → Row), k ≤ l.length ∧ i = .int .i64 k ∧ Hid (OU w wr n l w.heap.size k rows)) (fun i _ => l.length - (intOf i).toNat)
    case atStart => exact ⟨0, _, by omega, rfl, hB⟩
    case round =>
      obtain ⟨k, rows, hk, rfl, hO⟩ := hrel
      clear hB hmk
      rename World => wr
      by_cases hkl : k < l.length
      · have d1 : decide ((k : Int) < (l.length : Int)) = true := decide_eq_true (by omega)
        obtain ⟨b, off, rfl, hlt, hcell⟩ := H.out (by omega)
        obtain ⟨ca0, cb0⟩ := hcell k hkl
        have ca := (hO.out.on.cell (p := ⟨b, off + k * 2, none⟩) hlt).trans ca0
        have cb := (hO.out.on.cell (p := ⟨b, off + k * 2 + 1, none⟩) hlt).trans cb0
        have hno := Lib.hid (fun (hn : inE n l[k] = false) W' (hb : Below wr.heap.size wr W') => hO.out.next hkl hn hb)
        have hin := Lib.hid (fun (hn : inE n l[k] = true) => outN_in hkl hn)
        clear hcell ca0 cb0
        generalize l[k] = pk at *
        obtain ⟨x, y⟩ := pk
        simp only at ca cb
        have KA := Lib.hid (fun W => member_any (m : Int) x W)
        have KB := Lib.hid (fun W => member_any (m : Int) y W)
        have hia := Lib.hid (show inG (m : Int) x = inG n x by have := hm.out; unfold inG; by_cases h : 0 ≤ x <;> simp [h]; omega)
        have hib := Lib.hid (show inG (m : Int) y = inG n y by have := hm.out; unfold inG; by_cases h : 0 ≤ y <;> simp [h]; omega)
        by_cases hx : inG (m : Int) x = true
        · by_cases hy : inG (m : Int) y = true
          · have hx' := hx
            have hy' := hy
            unfold inG at hx' hy'
            simp only [Bool.and_eq_true, decide_eq_true_eq] at hx' hy'
            obtain ⟨a, rfl⟩ : ∃ a : Nat, x = a := ⟨x.toNat, by omega⟩
            obtain ⟨c, rfl⟩ : ∃ c : Nat, y = c := ⟨y.toNat, by omega⟩
            have ham : a < m := by omega
            have haI : (a : Int) < (m : Int) := by omega
            have Hnx := Lib.hid (hin.out (by unfold inE; rw [← hia.out, ← hib.out, hx, hy]; rfl))
            rw [hx] at KA
            rw [hy] at KB
            have H8 : Hid (OU w (wr.alloc (.cells #[.int .i64 a, .int .i64 c] 68)) n l w.heap.size k rows) := Lib.hid ⟨hO.out.rg.on ((Below.refl _ _).alloc (Nat.le_refl _) _), hO.out.xs, hO.out.on.alloc hO.out.on.size _⟩
            have he0 : (wr.alloc (.cells #[.int .i64 a, .int .i64 c] 68)).cell? ⟨wr.heap.size, 0, none⟩ = some (.int .i64 a) := (Box.new wr _ _).cell 0
            have he1 : (wr.alloc (.cells #[.int .i64 a, .int .i64 c] 68)).cell? ⟨wr.heap.size, 1, none⟩ = some (.int .i64 c) := (Box.new wr _ _).cell 1
            have heb : wr.heap.size < (wr.alloc (.cells #[.int .i64 a, .int .i64 c] 68)).heap.size := by simp
            have hlo := H8.out.rg.bx.lt
            have HE : Hid (Box (wr.alloc (.cells #[.int .i64 a, .int .i64 c] 68)) wr.heap.size 68 #[.int .i64 a, .int .i64 c]) := Lib.hid (Box.new wr _ _)
            clear hno hin hia hib hO hx hy hx' hy'
            go_upto_region 8 with fail
            clear ca cb hlt
            generalize wr.alloc (.cells #[.int .i64 a, .int .i64 c] 68) = w8 at *
            generalize wr.heap.size = eb at *
            go_wp2_with fail
            refine (KA.out _).mono ?_
            rintro e w2 ⟨rfl, rfl⟩
            clear KA
            go_wp2_with fail
            refine (KB.out _).mono ?_
            rintro e w2 ⟨rfl, rfl⟩
            clear KB
            go_wp2_with fail
            have ko := (H8.out.rg.slot (i := a) (by rw [hm.out]; exact ham) (Fr.refl _ w8)).1
            have ko : w8.cell? ⟨w.heap.size, a, none⟩ = some (.slice (rows a).A (rows a).xs.length (rows a).cap) := ko
            obtain ⟨i0, hi0, hz0, hz1, hz2⟩ := info_parts info_int
            have Hi := Lib.hid hi0
            have Hz0 := Lib.hid hz0
            have Hz1 := Lib.hid hz1
            have Hz2 := Lib.hid hz2
            have hle : Hid ((rows a).xs.length = (natI (rows a).xs).length) := Lib.hid (by rw [natI_len])
            have hxl : (rows a).xs.length ≤ 1000 := by rw [H8.out.xs a (by rw [hm.out]; exact ham)]; exact Nat.le_trans (outN_le n l k a) hl
            have h63 : (rows a).xs.length + 1 ≤ 9223372036854775807 := by omega
            have hby : (rows a).xs.length * 8 + 8 ≤ 140737488355328 := by omega
            have hby : ((rows a).xs.length + 1) * 8 ≤ 140737488355328 := by omega
            have ham' : a < n.toNat := by rw [hm.out]; exact ham
            have Ham := Lib.hid ham'
            clear hi0 hz0 hz1 hz2 ham'
            go_region_law
              ((refine step_push (u := .int .i64 (c : Nat)) (by rfl) (.tmp 38) (.tmp 41) _ (by rfl) ((H8.out.rg.sg a Ham.out).drew.alloc _) hle.out Tryz.underlying71 Hi.out Hz0.out Hz1.out Hz2.out rfl (by rfl) (by rfl) (new_cell _ _ _) rfl h63 hby ?_; intro A2 cap2 w2 hs2 f2 hb2; have q2 := H8.out.rg.slot Ham.out (((Fr.refl (blk (rows a).A) w8).drew.alloc _).trans f2 (fun g hg => Or.inl hg) (fun g hg => Or.inl hg)); have k2 := q2.1; have p2 := q2.2; have e2 := (HE.out.kept (((Fr.refl (blk (rows a).A) w8).drew.alloc _).trans f2 (fun g hg => Or.inl hg) (fun g hg => Or.inl hg)) ((H8.out.rg.sg a Ham.out).ne_box HE.out (by decide))).cell 0; have e2 : w2.cell? ⟨eb, 0, none⟩ = some (.int .i64 (a : Nat)) := e2))
            all_goals
              have hfin : Hid (OU w (w2.setCell ⟨w.heap.size, a, none⟩ (.slice A2 ((rows a).xs.length + 1) cap2)) n l w.heap.size (k + 1) (upd rows a ⟨A2, cap2, (rows a).xs ++ [c]⟩)) := Lib.hid (H8.out.put Ham.out (by simpa using Hnx.out) rfl hs2 (((Fr.refl (blk (rows a).A) w8).drew.alloc _).trans f2 (fun g hg => Or.inl hg) (fun g hg => Or.inl hg)) (fun g hg => by
                rcases hb2 with e | e
                · exact Or.inl (e ▸ hg)
                · rw [e, List.mem_singleton] at hg
                  subst hg
                  exact Or.inr (by simp [World.drew])))
              clear hs2 f2 hb2 q2 k2 p2 e2 he0 he1 ko
              generalize w2.setCell ⟨w.heap.size, a, none⟩ (.slice A2 ((rows a).xs.length + 1) cap2) = w3 at *
              go_wp2_with fail
              go_roundw
              case rel => exact ⟨k + 1, _, by omega, by go_num, hfin⟩
              case measure => simp [intOf]; omega
          · have hy : inG (m : Int) y = false := by simpa using hy
            rw [hy] at KB hib
            rw [hx] at KA
            have hb1 := hno.out (by unfold inE; rw [← hib.out]; simp) (wr.alloc (.cells #[.int .i64 x, .int .i64 y] 68)) ((Below.refl _ _).alloc (Nat.le_refl _) _)
            have hb1 := Lib.hid hb1
            clear hno hin hia hib hO hx hy
            go_wp2_with fail
            refine (KA.out _).mono ?_
            rintro e w2 ⟨rfl, rfl⟩
            clear KA
            go_wp2_with fail
            refine (KB.out _).mono ?_
            rintro e w2 ⟨rfl, rfl⟩
            clear KB
            go_wp2_with fail
            go_roundw
            case rel => exact ⟨k + 1, rows, by omega, by go_num, hb1⟩
            case measure => simp [intOf]; omega
        · have hx : inG (m : Int) x = false := by simpa using hx
          rw [hx] at KA hia
          have hb1 := hno.out (by unfold inE; rw [← hia.out]; rfl) (wr.alloc (.cells #[.int .i64 x, .int .i64 y] 68)) ((Below.refl _ _).alloc (Nat.le_refl _) _)
          have hb1 := Lib.hid hb1
          clear hno hin hia hib KB hO hx
          go_wp2_with fail
          refine (KA.out _).mono ?_
          rintro e w2 ⟨rfl, rfl⟩
          clear KA
          go_wp2_with fail
          go_roundw
          case rel => exact ⟨k + 1, rows, by omega, by go_num, hb1⟩
          case measure => simp [intOf]; omega
      · obtain rfl : k = l.length := by omega
        have d1 : decide ((l.length : Int) < (l.length : Int)) = false := decide_eq_false (by omega)
        have fin : Hid (OuPost w n l (.returned (.tuple #[.slice (some ⟨w.heap.size, 0, none⟩) m m, .bool true])) wr) := Lib.hid ⟨_, rows, by rw [hm.out], hO.out⟩
        clear hO
        go_wp2_with fail
        go_ret2
        exact fin.out
end Go.Proofs.YtohdcmmkbblhkaaGreatDoor.tj

/-
  tarjan: the reference: of each member to which ones it leads, in memory.
-/
set_option linter.all false
namespace Go.Proofs.YtohdcmmkbblhkaaGreatDoor.tj
open Go.RowKit Go.Proofs.YtohdcmmkbblhkaaGreatDoor.mem

theorem info_bool : (Tryz.prog.info? 4).map (fun i => (i.zero, i.size, i.bytes)) = some (some (.bool false), 1, 1) := by kernel_rfl
theorem info_brow : (Tryz.prog.info? 109).map (fun i => (i.zero, i.size, i.bytes)) = some (some (.slice none 0 0), 1, 24) := by kernel_rfl

/-- truths, one a member -/
def bv (f : Nat → Bool) (n : Nat) : Array Value := ((List.range n).map fun i => Value.bool (f i)).toArray
theorem bv_size (f : Nat → Bool) (n : Nat) : (bv f n).size = n := by simp [bv]
theorem bv_at (f : Nat → Bool) {n i : Nat} (h : i < n) : (bv f n)[i]? = some (.bool (f i)) := by simp [bv, h]
theorem bv_set (f : Nat → Bool) (n m : Nat) (v : Bool) : (bv f n).setIfInBounds m (.bool v) = bv (upd f m v) n := by
  apply Array.ext_getElem?
  intro i
  rw [Array.getElem?_setIfInBounds]
  by_cases hi : i < n
  · rw [bv_at _ hi, bv_at _ hi, bv_size]
    by_cases e : m = i
    · subst e; simp [hi, upd_same]
    · rw [if_neg e, upd_ne _ _ (Ne.symm e)]
  · have e1 : (bv f n)[i]? = none := by rw [Array.getElem?_eq_none_iff, bv_size]; omega
    have e2 : (bv (upd f m v) n)[i]? = none := by rw [Array.getElem?_eq_none_iff, bv_size]; omega
    rw [e1, e2, bv_size]
    split
    · rw [if_neg (by omega)]
    · rfl
theorem bv_congr {f f' : Nat → Bool} {n : Nat} (h : ∀ i, i < n → f i = f' i) : bv f n = bv f' n := by
  unfold bv
  congr 1
  exact List.map_congr_left fun i hi => by rw [h i (by simpa using hi)]
theorem made_bv (k : Nat) : madeCells #[Value.bool false] k = bv (fun _ => false) k := by
  apply Array.ext'
  rw [toList_madeCells_one]
  unfold bv
  simp [List.map_const']

def mhv (bi : Nat → Nat) (k n i : Nat) : Value := if i < k then .slice (some ⟨bi i, 0, none⟩) n n else .slice none 0 0
/-- headers, the first k made -/
def mh (bi : Nat → Nat) (k n : Nat) : Array Value := ((List.range n).map fun i => mhv bi k n i).toArray
theorem mh_size (bi : Nat → Nat) (k n : Nat) : (mh bi k n).size = n := by simp [mh]
theorem mh_at (bi : Nat → Nat) {k n i : Nat} (h : i < n) (hk : i < k) : (mh bi k n)[i]? = some (.slice (some ⟨bi i, 0, none⟩) n n) := by simp [mh, mhv, h, hk]
theorem mh_has (bi : Nat → Nat) {k n i : Nat} (h : i < n) : (mh bi k n)[i]? = some (mhv bi k n i) := by simp [mh, h]
theorem mh_set (bi : Nat → Nat) (k n g : Nat) : (mh bi k n).setIfInBounds k (.slice (some ⟨g, 0, none⟩) n n) = mh (upd bi k g) (k + 1) n := by
  apply Array.ext_getElem?
  intro i
  rw [Array.getElem?_setIfInBounds]
  by_cases hi : i < n
  · rw [mh_has _ hi, mh_has _ hi, mh_size]
    unfold mhv
    by_cases e : k = i
    · subst e; simp [hi, upd_same]
    · rw [if_neg e, upd_ne _ _ (Ne.symm e)]
      by_cases h2 : i < k
      · rw [if_pos h2, if_pos (by omega)]
      · rw [if_neg h2, if_neg (by omega)]
  · have e1 : (mh bi k n)[i]? = none := by rw [Array.getElem?_eq_none_iff, mh_size]; omega
    have e2 : (mh (upd bi k g) (k + 1) n)[i]? = none := by rw [Array.getElem?_eq_none_iff, mh_size]; omega
    rw [e1, e2, mh_size]
    split
    · rw [if_neg (by omega)]
    · rfl
theorem made_mh (k : Nat) (bi : Nat → Nat) : madeCells #[Value.slice none 0 0] k = mh bi 0 k := by
  apply Array.ext'
  rw [toList_madeCells_one]
  unfold mh mhv
  simp [List.map_const']

/-- a table of truths -/
structure MX (W : World) (n0 mb : Nat) (bi : Nat → Nat) (k n : Nat) (M : Nat → Nat → Bool) : Prop where
  bx : Box W mb 109 (mh bi k n)
  rw_ : ∀ i, i < k → Box W (bi i) 4 (bv (M i) n)
  inj : ∀ i j, i < k → j < k → bi i = bi j → i = j
  gb : n0 ≤ mb
  ge : ∀ i, i < k → n0 ≤ bi i

section
variable {W W' : World} {n0 mb : Nat} {bi : Nat → Nat} {k n : Nat} {M : Nat → Nat → Bool}

theorem MX.on (h : MX W n0 mb bi k n M) (hb : Below W.heap.size W W') : MX W' n0 mb bi k n M :=
  ⟨h.bx.kept (Fr.of_below hb []) (by simp), fun i hi => (h.rw_ i hi).kept (Fr.of_below hb []) (by simp), h.inj, h.gb, h.ge⟩

theorem MX.congr {M' : Nat → Nat → Bool} (h : MX W n0 mb bi k n M) (e : ∀ i j, i < k → j < n → M i j = M' i j) : MX W n0 mb bi k n M' :=
  ⟨h.bx, fun i hi => by rw [← bv_congr (fun j hj => e i j hi hj)]; exact h.rw_ i hi, h.inj, h.gb, h.ge⟩

theorem MX.ne (h : MX W n0 mb bi k n M) {i : Nat} (hi : i < k) : mb ≠ bi i := fun e => by
  have h1 := h.bx
  rw [e] at h1
  have := h1.symm.trans (h.rw_ i hi)
  simp at this

theorem MX.set (h : MX W n0 mb bi k n M) {i : Nat} (hi : i < k) (j : Nat) (v : Bool) : MX (W.setCell ⟨bi i, j, none⟩ (.bool v)) n0 mb bi k n (upd M i (upd (M i) j v)) := by
  have hf : Fr [bi i] W (W.setCell ⟨bi i, j, none⟩ (.bool v)) := (Fr.refl _ _).setCell (Or.inl (by simp)) _
  refine ⟨h.bx.kept hf (by simpa using h.ne hi), fun q hq => ?_, h.inj, h.gb, h.ge⟩
  by_cases e : q = i
  · subst e
    rw [upd_same]
    have := (h.rw_ q hq).put j (.bool v)
    rwa [bv_set] at this
  · rw [upd_ne _ _ e]
    exact (h.rw_ q hq).kept hf (by simpa using fun e2 => e (h.inj q i hq hi e2))

theorem MX.add (h : MX W n0 mb bi k n M) (hk : k < n) (hn : n0 ≤ W.heap.size) : MX ((W.alloc (.cells (bv (fun _ => false) n) 4)).setCell ⟨mb, k, none⟩ (.slice (some ⟨W.heap.size, 0, none⟩) n n)) n0 mb (upd bi k W.heap.size) (k + 1) n (upd M k fun _ => false) := by
  have h1 := h.on (W' := W.alloc (.cells (bv (fun _ => false) n) 4)) ((Below.refl _ _).alloc (Nat.le_refl _) _)
  have hnew : Box (W.alloc (.cells (bv (fun _ => false) n) 4)) W.heap.size 4 (bv (fun _ => false) n) := Box.new _ _ _
  have hmb := h.bx.lt
  have hf : Fr [mb] (W.alloc (.cells (bv (fun _ => false) n) 4)) ((W.alloc (.cells (bv (fun _ => false) n) 4)).setCell ⟨mb, k, none⟩ (.slice (some ⟨W.heap.size, 0, none⟩) n n)) := (Fr.refl _ _).setCell (Or.inl (by simp)) _
  refine ⟨?_, fun q hq => ?_, fun i j hi hj e => ?_, h.gb, fun i hi => ?_⟩
  · have := h1.bx.put k (.slice (some ⟨W.heap.size, 0, none⟩) n n)
    rwa [mh_set] at this
  · by_cases e : q = k
    · subst e
      rw [upd_same, upd_same]
      exact hnew.kept hf (by simp; omega)
    · rw [upd_ne _ _ e, upd_ne _ _ e]
      exact (h1.rw_ q (by omega)).kept hf (by simpa using Ne.symm (h1.ne (i := q) (by omega)))
  · by_cases ei : i = k
    · by_cases ej : j = k
      · omega
      · subst ei
        rw [upd_same, upd_ne _ _ ej] at e
        have := (h.rw_ j (by omega)).lt
        omega
    · by_cases ej : j = k
      · subst ej
        rw [upd_same, upd_ne _ _ ei] at e
        have := (h.rw_ i (by omega)).lt
        omega
      · rw [upd_ne _ _ ei, upd_ne _ _ ej] at e
        exact h.inj i j (by omega) (by omega) e
  · by_cases e : i = k
    · subst e; rw [upd_same]; exact hn
    · rw [upd_ne _ _ e]; exact h.ge i (by omega)
end

/-- in the midst of closing: rows ahead of i, and of row i those ahead of j, have members up to k in the middle -/
def WM (E : List (Nat × Nat)) (k i j r c : Nat) : Bool := if r < i ∨ (r = i ∧ c < j) then rk E (k + 1) r c else rk E k r c

theorem rk_mid (E : List (Nat × Nat)) (k i : Nat) : rk E (k + 1) i k = rk E k i k := by simp only [rk]; cases rk E k i k <;> simp
theorem rk_own (E : List (Nat × Nat)) (k j : Nat) : rk E (k + 1) k j = rk E k k j := by simp only [rk]; cases rk E k k j <;> simp
theorem WM_mid (E : List (Nat × Nat)) (k i j r : Nat) : WM E k i j r k = rk E k r k := by unfold WM; split <;> simp [rk_mid]
theorem WM_own (E : List (Nat × Nat)) (k i j c : Nat) : WM E k i j k c = rk E k k c := by unfold WM; split <;> simp [rk_own]
theorem WM_at (E : List (Nat × Nat)) (k i j : Nat) : WM E k i j i j = rk E k i j := by unfold WM; rw [if_neg (by omega)]
theorem WM_start (E : List (Nat × Nat)) (k : Nat) : WM E k 0 0 = rk E k := by
  funext r c
  unfold WM
  rw [if_neg (by omega)]
theorem WM_step {E : List (Nat × Nat)} {k i j : Nat} (h : rk E k i k = true) : upd (WM E k i j) i (upd (WM E k i j i) j (rk E k i j || rk E k k j)) = WM E k i (j + 1) := by
  funext r c
  by_cases er : r = i
  · subst er
    rw [upd_same]
    by_cases ec : c = j
    · subst ec
      rw [upd_same]
      unfold WM
      rw [if_pos (Or.inr ⟨rfl, by omega⟩)]
      simp [rk, h]
    · rw [upd_ne _ _ ec]
      unfold WM
      by_cases hc : c < j
      · rw [if_pos (Or.inr ⟨rfl, hc⟩), if_pos (Or.inr ⟨rfl, by omega⟩)]
      · rw [if_neg (by omega), if_neg (by omega)]
  · rw [upd_ne _ _ er]
    unfold WM
    by_cases hr : r < i
    · rw [if_pos (Or.inl hr), if_pos (Or.inl hr)]
    · rw [if_neg (by omega), if_neg (by omega)]
theorem WM_skip {E : List (Nat × Nat)} {k i j : Nat} (h : rk E k i k = false) : WM E k i j = WM E k (i + 1) 0 := by
  funext r c
  unfold WM
  by_cases hr : r < i
  · rw [if_pos (Or.inl hr), if_pos (Or.inl (by omega))]
  · by_cases er : r = i
    · subst er
      rw [if_pos (show r < r + 1 ∨ _ from Or.inl (by omega))]
      have e : rk E (k + 1) r c = rk E k r c := by simp [rk, h]
      rw [e]
      split <;> rfl
    · rw [if_neg (by omega), if_neg (by omega)]
theorem WM_row {E : List (Nat × Nat)} {k i n r c : Nat} (hc : c < n) : WM E k i n r c = WM E k (i + 1) 0 r c := by
  unfold WM
  by_cases hr : r < i
  · rw [if_pos (Or.inl hr), if_pos (Or.inl (by omega))]
  · by_cases er : r = i
    · subst er
      rw [if_pos (Or.inr ⟨rfl, hc⟩), if_pos (Or.inl (by omega))]
    · rw [if_neg (by omega), if_neg (by omega)]
theorem WM_all {E : List (Nat × Nat)} {k n r c : Nat} (hr : r < n) : WM E k n 0 r c = rk E (k + 1) r c := by
  unfold WM
  rw [if_pos (Or.inl hr)]

/-- edges told -/
theorem rk0_in {n : Int} {l : List (Int × Int)} {k : Nat} (hk : k < l.length) (h : inE n l[k] = true) (r c : Nat) : rk (gof n (l.take (k + 1))).E 0 r c = upd (rk (gof n (l.take k)).E 0) l[k].1.toNat (upd (rk (gof n (l.take k)).E 0 l[k].1.toNat) l[k].2.toNat true) r c := by
  have e : (gof n (l.take (k + 1))).E = (gof n (l.take k)).E ++ [toE l[k]] := by
    unfold gof
    rw [List.take_succ_eq_append_getElem hk, List.filter_append, List.map_append]
    simp [h]
  rw [e]
  generalize (gof n (l.take k)).E = E
  unfold toE
  generalize l[k].1.toNat = a
  generalize l[k].2.toNat = b
  by_cases er : r = a
  · subst er
    rw [upd_same]
    by_cases ec : c = b
    · subst ec
      rw [upd_same]
      simp [rk]
    · rw [upd_ne _ _ ec]
      simp [rk, ec]
  · rw [upd_ne _ _ er]
    simp [rk, er]
theorem rk0_no {n : Int} {l : List (Int × Int)} {k : Nat} (hk : k < l.length) (h : inE n l[k] = false) : rk (gof n (l.take (k + 1))).E 0 = rk (gof n (l.take k)).E 0 := by
  have e : (gof n (l.take (k + 1))).E = (gof n (l.take k)).E := by
    unfold gof
    rw [List.take_succ_eq_append_getElem hk, List.filter_append]
    simp [h]
  rw [e]
theorem rk0_nil (n : Int) (l : List (Int × Int)) : rk (gof n (l.take 0)).E 0 = fun r c => r == c := by
  funext r c
  simp [rk, gof]
end Go.Proofs.YtohdcmmkbblhkaaGreatDoor.tj
