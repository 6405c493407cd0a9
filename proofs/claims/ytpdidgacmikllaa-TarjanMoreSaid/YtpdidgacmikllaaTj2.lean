/-
  tarjan: the edges, laid at their members: the walk.
-/
import Derived.Test.YtpdidgacmikllaaTj1
import Derived.Test.YtpdidgacmikllaaRnd
import Derived.Deep.RegionLaw
import Derived.Deep.DeepCutAuto
import Derived.Deep.CutRange
import Derived.Handy
namespace Go.Proofs.Ytpdidgacmikllaa.tj
open Go.RowKit Go.Proofs.Ytpdidgacmikllaa.mem

theorem info_row2 : (Try.prog.info? 32).map (fun i => (i.zero, i.size, i.bytes)) = some (some (.slice none 0 0), 1, 24) := by kernel_rfl

set_option maxRecDepth 100000 in
theorem member_any (n k : Int) (w : World) :
    Calls Try.prog 28 #[.int .i64 n, .int .i64 k] w fun e w' => e = .returned (.bool (inG n k)) ∧ w = w' := by
  by_cases h0 : 0 ≤ k
  · have d0 : decide (0 ≤ k) = true := decide_eq_true h0
    have hr := Lib.hid (show decide (k < n) = inG n k by simp [inG, h0])
    go_enter Try.func28, Try.ntmps28
    go_wp2_with fail
    go_ret
    exact ⟨congrArg (fun b => Ending.returned (.bool b)) hr.out, rfl⟩
  · have d0 : decide (0 ≤ k) = false := decide_eq_false h0
    have hr := Lib.hid (show false = inG n k by simp [inG, h0])
    go_enter Try.func28, Try.ntmps28
    go_wp2_with fail
    go_ret
    exact ⟨congrArg (fun b => Ending.returned (.bool b)) hr.out, rfl⟩

/-- what the edges so far have come to -/
structure OU (w W : World) (n : Int) (l : List (Int × Int)) (o k : Nat) (rows : Nat → Row) : Prop where
  rg : RG W w.heap.size o n.toNat rows []
  xs : ∀ i, i < n.toNat → (rows i).xs = outN n l k i
  on : Below w.heap.size w W

def OuPost (w : World) (n : Int) (l : List (Int × Int)) (e : Ending) (W : World) : Prop := ∃ o rows, e = .returned (.tuple #[.slice (some ⟨o, 0, none⟩) n.toNat n.toNat, .bool true]) ∧ OU w W n l o l.length rows

theorem OU.next {w W : World} {n : Int} {l : List (Int × Int)} {o k : Nat} {rows : Nat → Row} (h : OU w W n l o k rows) (hk : k < l.length) (hn : inE n l[k] = false) {W' : World} (hb : Below W.heap.size W W') : OU w W' n l o (k + 1) rows :=
  ⟨h.rg.on hb, fun i hi => by rw [outN_no hk hn]; exact h.xs i hi, h.on.trans (hb.mono h.on.size)⟩

theorem OU.put {w W W1 : World} {n : Int} {l : List (Int × Int)} {o k : Nat} {rows : Nat → Row} (h : OU w W n l o k rows) {a c : Nat} (ha : a < n.toNat) (hnx : outN n l (k + 1) = upd (outN n l k) a (outN n l k a ++ [c])) {A' : Option Addr} {c' m : Nat} (hm : m = (rows a).xs.length + 1) (hs : Seg W1 3 A' c' (natI (rows a).xs ++ [.int .i64 (c : Nat)])) (hf : Fr (blk (rows a).A) W W1) (hg : ∀ g ∈ blk A', g ∈ blk (rows a).A ∨ W.heap.size ≤ g) :
    OU w (W1.setCell ⟨o, a, none⟩ (.slice A' m c')) n l o (k + 1) (upd rows a ⟨A', c', (rows a).xs ++ [c]⟩) := by
  rw [natI_snoc] at hs
  obtain ⟨p1, p2⟩ := h.rg.push h.on.size ha hm hs hf hg
  refine ⟨p1, fun i hi => ?_, h.on.trans (p2.below (fun g hg => ?_) h.on.size)⟩
  · rw [hnx]
    by_cases e : i = a
    · subst e; rw [upd_same, upd_same, h.xs i hi]
    · rw [upd_ne _ _ e, upd_ne _ _ e]; exact h.xs i hi
  · rcases List.mem_cons.1 hg with rfl | hg
    · exact h.rg.gb
    · exact h.rg.ge a ha g hg

set_option maxRecDepth 100000 in
theorem outs_big (n : Int) (hn : 20000 < n) (v : Value) (w : World) : Calls Try.prog 20 #[.int .i64 n, v] w fun e w' => e = .returned (.tuple #[.slice none 0 0, .bool false]) ∧ w = w' := by
  have d0 : decide (20000 < n) = true := decide_eq_true hn
  go_enter Try.func20, Try.ntmps20
  go_wp2_with fail
  go_ret2
  exact ⟨rfl, rfl⟩

set_option maxRecDepth 100000 in
set_option maxHeartbeats 2000000 in
theorem outs_any (n : Int) (hn : n ≤ 100) (A : Option Addr) (cap : Nat) (l : List (Int × Int)) (hl : l.length ≤ 1000) (w : World) (h : Eds w A l) :
    Calls Try.prog 20 #[.int .i64 n, .slice A l.length cap] w (OuPost w n l) := by
  obtain ⟨m, hm⟩ : ∃ m, Hid (n.toNat = m) := ⟨_, Lib.hid rfl⟩
  have hm' : m ≤ 100 := by have := hm.out; omega
  have hmk := run_make_row' (P := Try.prog) 25 32 (.slice none 0 0) 24 Try.underlying25 info_row2 rfl .i64 .i64 m (by omega) (by omega)
  rw [made_rv] at hmk
  have H := Lib.hid h
  have d0 : decide (20000 < n) = false := decide_eq_false (by omega)
  clear h
  go_enter Try.func20, Try.ntmps20
  go_upto_region 3 with fail
  go_cut [0] (fun s0 wx => s0 = .int .i64 (m : Int) ∧ w = wx)
  case first =>
    clear hmk
    by_cases h1 : n < 0
    · have h2 : ¬ (0 < n) := by omega
      have h3 : ¬ (0 ≤ n) := by omega
      have h4 : n ≤ 0 := by omega
      have h5 := Lib.hid (show Value.int .i64 0 = .int .i64 (m : Int) by have := hm.out; congr 1; omega)
      go_wp2_with fail
      go_meet
      exact ⟨h5.out, rfl⟩
    · have h3 : 0 ≤ n := by omega
      have h5 := Lib.hid (show n = (m : Int) by have := hm.out; omega)
      go_wp2_with fail
      all_goals (go_meet; first | exact ⟨by rw [h5.out], rfl⟩ | exact ⟨by congr 1; have := h5.out; omega, rfl⟩)
  case rest =>
    obtain ⟨rfl, rfl⟩ := hcut
    have hB : Hid (OU w (w.alloc (.cells (rv (fun _ => row0) m) 32)) n l w.heap.size 0 (fun _ => row0)) := Lib.hid (by
      refine ⟨?_, fun i hi => by rw [outN_zero]; rfl, (Below.refl _ _).alloc (Nat.le_refl _) _⟩
      rw [hm.out]
      exact rg_new (w := w) (Box.new _ _ _) (Nat.le_refl _) (fun x hx => by cases hx) (by simp))
    go_wp2_with fail
    go_loopw [17] (fun i wr => ∃ (k : Nat) (rows : Nat → Row), k ≤ l.length ∧ i = .int .i64 k ∧ Hid (OU w wr n l w.heap.size k rows)) (fun i _ => l.length - (intOf i).toNat)
    case atStart => exact ⟨0, _, by omega, rfl, hB⟩
    case round =>
      obtain ⟨k, rows, hk, rfl, hO⟩ := hrel
      clear hB hmk
      rename World => wr
      by_cases hkl : k < l.length
      · have d1 : decide ((k : Int) < (l.length : Int)) = true := decide_eq_true (by omega)
        obtain ⟨b, off, rfl, hlt, hcell⟩ := H.out (by omega)
        obtain ⟨ca0, cb0⟩ := hcell k hkl
        have ca := (hO.out.on.cell (p := ⟨b, off + k * 2, none⟩) hlt).trans ca0
        have cb := (hO.out.on.cell (p := ⟨b, off + k * 2 + 1, none⟩) hlt).trans cb0
        have hno := Lib.hid (fun (hn : inE n l[k] = false) W' (hb : Below wr.heap.size wr W') => hO.out.next hkl hn hb)
        have hin := Lib.hid (fun (hn : inE n l[k] = true) => outN_in hkl hn)
        clear hcell ca0 cb0
        generalize l[k] = pk at *
        obtain ⟨x, y⟩ := pk
        simp only at ca cb
        have KA := Lib.hid (fun W => member_any (m : Int) x W)
        have KB := Lib.hid (fun W => member_any (m : Int) y W)
        have hia := Lib.hid (show inG (m : Int) x = inG n x by have := hm.out; unfold inG; by_cases h : 0 ≤ x <;> simp [h]; omega)
        have hib := Lib.hid (show inG (m : Int) y = inG n y by have := hm.out; unfold inG; by_cases h : 0 ≤ y <;> simp [h]; omega)
        by_cases hx : inG (m : Int) x = true
        · by_cases hy : inG (m : Int) y = true
          · have hx' := hx
            have hy' := hy
            unfold inG at hx' hy'
            simp only [Bool.and_eq_true, decide_eq_true_eq] at hx' hy'
            obtain ⟨a, rfl⟩ : ∃ a : Nat, x = a := ⟨x.toNat, by omega⟩
            obtain ⟨c, rfl⟩ : ∃ c : Nat, y = c := ⟨y.toNat, by omega⟩
            have ham : a < m := by omega
            have haI : (a : Int) < (m : Int) := by omega
            have Hnx := Lib.hid (hin.out (by unfold inE; rw [← hia.out, ← hib.out, hx, hy]; rfl))
            rw [hx] at KA
            rw [hy] at KB
            have H8 : Hid (OU w (wr.alloc (.cells #[.int .i64 a, .int .i64 c] 45)) n l w.heap.size k rows) := Lib.hid ⟨hO.out.rg.on ((Below.refl _ _).alloc (Nat.le_refl _) _), hO.out.xs, hO.out.on.alloc hO.out.on.size _⟩
            have he0 : (wr.alloc (.cells #[.int .i64 a, .int .i64 c] 45)).cell? ⟨wr.heap.size, 0, none⟩ = some (.int .i64 a) := (Box.new wr _ _).cell 0
            have he1 : (wr.alloc (.cells #[.int .i64 a, .int .i64 c] 45)).cell? ⟨wr.heap.size, 1, none⟩ = some (.int .i64 c) := (Box.new wr _ _).cell 1
            have heb : wr.heap.size < (wr.alloc (.cells #[.int .i64 a, .int .i64 c] 45)).heap.size := by simp
            have hlo := H8.out.rg.bx.lt
            have HE : Hid (Box (wr.alloc (.cells #[.int .i64 a, .int .i64 c] 45)) wr.heap.size 45 #[.int .i64 a, .int .i64 c]) := Lib.hid (Box.new wr _ _)
            clear hno hin hia hib hO hx hy hx' hy'
            go_upto_region 8 with fail
            clear ca cb hlt
            generalize wr.alloc (.cells #[.int .i64 a, .int .i64 c] 45) = w8 at *
            generalize wr.heap.size = eb at *
            go_wp2_with fail
            refine (KA.out _).mono ?_
            rintro e w2 ⟨rfl, rfl⟩
            clear KA
            go_wp2_with fail
            refine (KB.out _).mono ?_
            rintro e w2 ⟨rfl, rfl⟩
            clear KB
            go_wp2_with fail
            have ko := (H8.out.rg.slot (i := a) (by rw [hm.out]; exact ham) (Fr.refl _ w8)).1
            have ko : w8.cell? ⟨w.heap.size, a, none⟩ = some (.slice (rows a).A (rows a).xs.length (rows a).cap) := ko
            obtain ⟨i0, hi0, hz0, hz1, hz2⟩ := info_parts info_int
            have Hi := Lib.hid hi0
            have Hz0 := Lib.hid hz0
            have Hz1 := Lib.hid hz1
            have Hz2 := Lib.hid hz2
            have hle : Hid ((rows a).xs.length = (natI (rows a).xs).length) := Lib.hid (by rw [natI_len])
            have hxl : (rows a).xs.length ≤ 1000 := by rw [H8.out.xs a (by rw [hm.out]; exact ham)]; exact Nat.le_trans (outN_le n l k a) hl
            have h63 : (rows a).xs.length + 1 ≤ 9223372036854775807 := by omega
            have hby : (rows a).xs.length * 8 + 8 ≤ 140737488355328 := by omega
            have hby : ((rows a).xs.length + 1) * 8 ≤ 140737488355328 := by omega
            have ham' : a < n.toNat := by rw [hm.out]; exact ham
            have Ham := Lib.hid ham'
            clear hi0 hz0 hz1 hz2 ham'
            go_region_law
              ((refine step_push (u := .int .i64 (c : Nat)) (by rfl) (.tmp 38) (.tmp 41) _ (by rfl) ((H8.out.rg.sg a Ham.out).drew.alloc _) hle.out Try.underlying32 Hi.out Hz0.out Hz1.out Hz2.out rfl (by rfl) (by rfl) (new_cell _ _ _) rfl h63 hby ?_; intro A2 cap2 w2 hs2 f2 hb2; have q2 := H8.out.rg.slot Ham.out (((Fr.refl (blk (rows a).A) w8).drew.alloc _).trans f2 (fun g hg => Or.inl hg) (fun g hg => Or.inl hg)); have k2 := q2.1; have p2 := q2.2; have e2 := (HE.out.kept (((Fr.refl (blk (rows a).A) w8).drew.alloc _).trans f2 (fun g hg => Or.inl hg) (fun g hg => Or.inl hg)) ((H8.out.rg.sg a Ham.out).ne_box HE.out (by decide))).cell 0; have e2 : w2.cell? ⟨eb, 0, none⟩ = some (.int .i64 (a : Nat)) := e2))
            all_goals
              have hfin : Hid (OU w (w2.setCell ⟨w.heap.size, a, none⟩ (.slice A2 ((rows a).xs.length + 1) cap2)) n l w.heap.size (k + 1) (upd rows a ⟨A2, cap2, (rows a).xs ++ [c]⟩)) := Lib.hid (H8.out.put Ham.out (by simpa using Hnx.out) rfl hs2 (((Fr.refl (blk (rows a).A) w8).drew.alloc _).trans f2 (fun g hg => Or.inl hg) (fun g hg => Or.inl hg)) (fun g hg => by
                rcases hb2 with e | e
                · exact Or.inl (e ▸ hg)
                · rw [e, List.mem_singleton] at hg
                  subst hg
                  exact Or.inr (by simp [World.drew])))
              clear hs2 f2 hb2 q2 k2 p2 e2 he0 he1 ko
              generalize w2.setCell ⟨w.heap.size, a, none⟩ (.slice A2 ((rows a).xs.length + 1) cap2) = w3 at *
              go_wp2_with fail
              go_roundw
              case rel => exact ⟨k + 1, _, by omega, by go_num, hfin⟩
              case measure => simp [intOf]; omega
          · have hy : inG (m : Int) y = false := by simpa using hy
            rw [hy] at KB hib
            rw [hx] at KA
            have hb1 := hno.out (by unfold inE; rw [← hib.out]; simp) (wr.alloc (.cells #[.int .i64 x, .int .i64 y] 45)) ((Below.refl _ _).alloc (Nat.le_refl _) _)
            have hb1 := Lib.hid hb1
            clear hno hin hia hib hO hx hy
            go_wp2_with fail
            refine (KA.out _).mono ?_
            rintro e w2 ⟨rfl, rfl⟩
            clear KA
            go_wp2_with fail
            refine (KB.out _).mono ?_
            rintro e w2 ⟨rfl, rfl⟩
            clear KB
            go_wp2_with fail
            go_roundw
            case rel => exact ⟨k + 1, rows, by omega, by go_num, hb1⟩
            case measure => simp [intOf]; omega
        · have hx : inG (m : Int) x = false := by simpa using hx
          rw [hx] at KA hia
          have hb1 := hno.out (by unfold inE; rw [← hia.out]; rfl) (wr.alloc (.cells #[.int .i64 x, .int .i64 y] 45)) ((Below.refl _ _).alloc (Nat.le_refl _) _)
          have hb1 := Lib.hid hb1
          clear hno hin hia hib KB hO hx
          go_wp2_with fail
          refine (KA.out _).mono ?_
          rintro e w2 ⟨rfl, rfl⟩
          clear KA
          go_wp2_with fail
          go_roundw
          case rel => exact ⟨k + 1, rows, by omega, by go_num, hb1⟩
          case measure => simp [intOf]; omega
      · obtain rfl : k = l.length := by omega
        have d1 : decide ((l.length : Int) < (l.length : Int)) = false := decide_eq_false (by omega)
        have fin : Hid (OuPost w n l (.returned (.tuple #[.slice (some ⟨w.heap.size, 0, none⟩) m m, .bool true])) wr) := Lib.hid ⟨_, rows, by rw [hm.out], hO.out⟩
        clear hO
        go_wp2_with fail
        go_ret2
        exact fin.out
end Go.Proofs.Ytpdidgacmikllaa.tj
