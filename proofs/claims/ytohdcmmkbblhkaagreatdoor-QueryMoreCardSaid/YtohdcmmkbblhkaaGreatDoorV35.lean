import Derived.Test.YtohdcmmkbblhkaaGreatDoorV23
import Derived.Test.YtohdcmmkbblhkaaGreatDoorUPi
import Derived.Test.YtohdcmmkbblhkaaGreatDoorV16
import Derived.Test.YtohdcmmkbblhkaaGreatDoorUQs
import Derived.Test.YtohdcmmkbblhkaaGreatDoorV03
import Derived.Test.YtohdcmmkbblhkaaGreatDoorV32
import Derived.Deep.RegionHeld3
import Derived.Test.YtohdcmmkbblhkaaGreatDoorV19
/-
  query: the order of calls: the program's and the reference's: what both want.
-/
set_option linter.all false
namespace Go.Proofs.YtohdcmmkbblhkaaGreatDoor.qy
open Go.RowKit Go.Sort Go.Shelf Go.Proofs.YtohdcmmkbblhkaaGreatDoor.mem Go.Proofs.YtohdcmmkbblhkaaGreatDoor.wd Go.Proofs.YtohdcmmkbblhkaaGreatDoor.tj
open Go.Proofs.YtohdcmmkbblhkaaGreatDoor.inn (rsS mem_rsS)
open Go.Proofs.YtohdcmmkbblhkaaGreatDoor.rng (PI)

/-- calls by their numbers, cell by cell -/
def fi (l : List (Int × Int)) : List Value := l.flatMap fun e => [.int .i64 e.1, .int .i64 e.2]
theorem fi_len (l : List (Int × Int)) : (fi l).length = l.length * 2 := by
  unfold fi
  induction l with
  | nil => rfl
  | cons x r ih => rw [List.flatMap_cons, List.length_append, ih]; simp; omega
theorem fi_snoc (l : List (Int × Int)) (e : Int × Int) : fi (l ++ [e]) = fi l ++ [.int .i64 e.1, .int .i64 e.2] := by simp [fi]
theorem fi_at : ∀ (l : List (Int × Int)) (j : Nat) (hj : j < l.length), (fi l)[j * 2]? = some (.int .i64 l[j].1) ∧ (fi l)[j * 2 + 1]? = some (.int .i64 l[j].2)
  | [], j, hj => by simp at hj
  | e :: r, 0, _ => by simp [fi]
  | e :: r, j + 1, hj => by
    have h := fi_at r j (by simpa using hj)
    have e1 : fi (e :: r) = .int .i64 e.1 :: .int .i64 e.2 :: fi r := by simp [fi]
    rw [e1, show (j + 1) * 2 = j * 2 + 1 + 1 by omega]
    simpa using h

/-- the list of numbered calls, in blocks of the call's own -/
structure EN (t : TypeId) (w W : World) (l : List (Int × Int)) (k : Nat) (B : Option Addr) (c : Nat) : Prop where
  sg : Sg 2 W t B c k (fi (l.take k))
  ge : ∀ x ∈ blk B, w.heap.size ≤ x
  on : Below w.heap.size w W
theorem EN.new (t : TypeId) (w : World) (l : List (Int × Int)) : EN t w w l 0 none 0 := ⟨Sg.new _ _ _, fun x hx => (by cases hx), Below.refl _ _⟩
theorem EN.eds {t : TypeId} {w W : World} {l : List (Int × Int)} {B : Option Addr} {c : Nat} (h : EN t w W l l.length B c) : Eds W B l := fun hz => by
  have hs := h.sg
  rw [List.take_length] at hs
  obtain ⟨g, off, e, hl, hc⟩ := hs.rd (by omega) (by rw [fi_len]; omega)
  refine ⟨g, off, e, hl, fun j hj => ?_⟩
  obtain ⟨h1, h2⟩ := fi_at l j hj
  obtain ⟨h3, h4⟩ := List.getElem?_eq_some_iff.1 h1
  obtain ⟨h5, h6⟩ := List.getElem?_eq_some_iff.1 h2
  have c1 := hc (j * 2) h3
  have c2 := hc (j * 2 + 1) h5
  rw [h4] at c1
  rw [h6] at c2
  exact ⟨c1, by rw [Nat.add_assoc]; exact c2⟩
theorem EN.push {t : TypeId} {w W W2 : World} {l : List (Int × Int)} {k : Nat} {B A2 : Option Addr} {c cap2 : Nat} (h : EN t w W l k B c) (hk : k < l.length) {o : Obj} {W1 : World} (h1 : Fr [] W W1) (hs : Sg 2 W2 t A2 cap2 (k + 1) (fi (l.take k) ++ [.int .i64 l[k].1, .int .i64 l[k].2])) (f : Fr (blk B) (W1.alloc o) W2) (hb : blk A2 = blk B ∨ blk A2 = [(W1.alloc o).heap.size]) : EN t w W2 l (k + 1) A2 cap2 := by
  have f6 : Fr (blk B) W W2 := (h1.alloc o).trans f (by simp) (fun g hg => Or.inl hg)
  refine ⟨by rw [List.take_succ_eq_append_getElem hk, fi_snoc]; exact hs, fun z hz => ?_, h.on.trans (f6.below h.ge h.on.size)⟩
  rcases hb with e | e
  · exact h.ge z (e ▸ hz)
  · rw [e, List.mem_singleton] at hz
    subst hz
    have := h.on.size
    have := h1.size
    simp
    omega

theorem numE_at {ns : List T} {l : List Ed} {k : Nat} (hk : k < l.length) (h : k < (numE ns l).length) : (numE ns l)[k] = (numI ns l[k].1, numI ns l[k].2) := by
  exact List.getElem_map _
theorem numE_len (ns : List T) (l : List Ed) : (numE ns l).length = l.length := by simp [numE]

/-- all names of calls, one beside the other -/
def bothV (l : List Ed) : List Value := (l.flatMap both).map encStr
theorem both_len (l : List Ed) : (l.flatMap both).length = 2 * l.length := by
  induction l with
  | nil => rfl
  | cons e r ih => simp only [List.flatMap_cons, List.length_append, ih, both, List.length_cons, List.length_nil]; omega
theorem bothV_len (l : List Ed) : (bothV l).length = 2 * l.length := by unfold bothV; rw [List.length_map, both_len]
theorem bothV_snoc (l : List Ed) (e : Ed) : bothV (l ++ [e]) = bothV l ++ [encStr e.1, encStr e.2] := by simp [bothV, both]

theorem rd_two (w : World) (t : TypeId) (u v : Value) : Rd (w.alloc (.cells #[u, v] t)) (some ⟨w.heap.size, 0, none⟩) [u, v] := fun _ => by
  refine ⟨w.heap.size, 0, rfl, by simp, fun j hj => ?_⟩
  have hb := (Box.new w t #[u, v]).cell j
  rw [Nat.zero_add, hb]
  simp only [List.length_cons, List.length_nil] at hj
  rcases j with _ | _ | j
  · rfl
  · rfl
  · omega

/-- texts stay where they lie when a box of something else is stored into -/
theorem rd_store {w : World} {A : Option Addr} {m : List T} {ob : Nat} {t : TypeId} {v : Value} (h : Rd w A (m.map encStr)) (hb : Box w ob t #[v]) (hv : ∀ s : ByteArray, v ≠ .string s) (u : Value) : Rd (w.setCell ⟨ob, 0, none⟩ u) A (m.map encStr) := fun hz => by
  obtain ⟨g, off, e, hl, hc⟩ := h hz
  subst e
  have hne : g ≠ ob := by
    rintro rfl
    have h1 := hc 0 hz
    rw [hb.cell (off + 0)] at h1
    rcases off with _ | off
    · simp at h1
      exact hv _ h1
    · simp at h1
  exact (h.kept ((Fr.refl [ob] w).setCell (p := ⟨ob, 0, none⟩) (Or.inl (by simp)) u) (fun q hq => by simp only [blk, List.mem_singleton] at hq ⊢; subst hq; exact hne)) hz

/-- of parts all are names' numbers -/
theorem parts_lt (l : List Ed) : ∀ p ∈ (gr l).parts, ∀ v ∈ p, v < (namesL l).length := fun p hp v hv => by
  have hP := (gr l).parts_parted gr_ok
  obtain ⟨i, _, _, rfl⟩ := hP.cls p hp
  have := ((gr l).mem_cls.1 hv).1
  rwa [gr_n] at this

theorem parts_small (l : List Ed) : (gr l).parts.length ≤ (namesL l).length ∧ ∀ p ∈ (gr l).parts, p.length ≤ (namesL l).length := by
  refine ⟨Nat.le_trans ((gr l).parts_len gr_ok) (Nat.le_of_eq gr_n), fun p hp => ?_⟩
  obtain ⟨i, _, _, rfl⟩ := ((gr l).parts_parted gr_ok).cls p hp
  unfold G.cls
  refine Nat.le_trans (List.length_filter_le _ _) ?_
  rw [List.length_range, gr_n]
  exact Nat.le_refl _

/-- a row of numbers as it lies -/
theorem nat_at {w : World} {A : Option Addr} {xs : List Nat} (h : Rd w A (natI xs)) {k : Nat} (hk : k < xs.length) : ∃ b off, A = some ⟨b, off, none⟩ ∧ b < w.heap.size ∧ w.cell? ⟨b, off + k, none⟩ = some (.int .i64 (xs[k] : Nat)) := by
  obtain ⟨b, off, e, hl, hc⟩ := h (by rw [natI_len]; omega)
  refine ⟨b, off, e, hl, ?_⟩
  rw [hc k (by rw [natI_len]; exact hk)]
  simp [natI]
theorem row_at {w : World} {A : Option Addr} {rows : List Row} (h : Rd w A (rows.map tj.hdr)) {k : Nat} (hk : k < rows.length) : ∃ b off, A = some ⟨b, off, none⟩ ∧ b < w.heap.size ∧ w.cell? ⟨b, off + k, none⟩ = some (tj.hdr rows[k]) := by
  obtain ⟨b, off, e, hl, hc⟩ := h (by rw [List.length_map]; omega)
  exact ⟨b, off, e, hl, by rw [hc k (by rw [List.length_map]; exact hk), List.getElem_map]⟩

theorem orderL_eq (l : List Ed) : orderL l = (gr l).parts.map (textsP (namesL l)) := rfl
theorem textsP_snoc (ns : List T) (p : List Nat) (v : Nat) : textsP ns (p ++ [v]) = textsP ns p ++ [ns.getD v []] := by simp [textsP]
theorem textsP_len (ns : List T) (p : List Nat) : (textsP ns p).length = p.length := by simp [textsP]
theorem info_tedge (t : TypeId) (h : (Tryz.prog.info? t).map (fun i => (i.zero, i.size, i.bytes)) = some (some (.agg #[.int .i64 0, .int .i64 0]), 2, 16)) : (Tryz.prog.info? t).map (fun i => (i.zero, i.size, i.bytes)) = some (some (.agg #[.int .i64 0, .int .i64 0]), 2, 16) := h
theorem info_te1 : (Tryz.prog.info? 68).map (fun i => (i.zero, i.size, i.bytes)) = some (some (.agg #[.int .i64 0, .int .i64 0]), 2, 16) := by kernel_rfl
theorem info_te2 : (Tryz.prog.info? 73).map (fun i => (i.zero, i.size, i.bytes)) = some (some (.agg #[.int .i64 0, .int .i64 0]), 2, 16) := by kernel_rfl
theorem info_strs : (Tryz.prog.info? 26).map (fun i => (i.zero, i.size, i.bytes)) = some (some (.slice none 0 0), 1, 24) := by kernel_rfl

set_option maxRecDepth 100000 in
theorem order1_any (W : World) (ob : Nat) (A : Option Addr) (c : Nat) (m : List T) (x : T) (hb : Box W ob 26 #[.slice A m.length c]) (hr : Rd W A (m.map encStr)) (hp : m.Pairwise (· < ·)) (hm : m.length ≤ 1000000) (hx : x ∈ m) :
    Calls Tryz.prog 35 #[encStr x, .pointer (some ⟨ob, 0, none⟩)] W fun e w' => e = .returned (.int .i64 (numI m x)) ∧ W = w' := by
  have K := Lib.hid (qs.search_any W A c m x hr hp hm)
  rw [qs.up_idx m x hp hx] at K
  have cb : W.cell? ⟨ob, 0, none⟩ = some (.slice A m.length c) := hb.cell 0
  have hn : numI m x = ((m.idxOf x : Nat) : Int) := rfl
  rw [hn]
  clear hb hr hp hx hn
  generalize decide (x ∈ m) = r at *
  generalize m.idxOf x = z at *
  unfold encStr at K ⊢
  go_enter Tryz.func35, Tryz.ntmps35
  go_wp2_with fail
  refine K.out.mono ?_
  rintro e w4 ⟨rfl, rfl⟩
  clear K
  go_wp2_with fail
  go_ret
  exact ⟨rfl, rfl⟩
end Go.Proofs.YtohdcmmkbblhkaaGreatDoor.qy

/-
  query: the order of calls: the program's.
-/
set_option linter.all false
namespace Go.Proofs.YtohdcmmkbblhkaaGreatDoor.qy
open Go.RowKit Go.Sort Go.Shelf Go.Proofs.YtohdcmmkbblhkaaGreatDoor.mem Go.Proofs.YtohdcmmkbblhkaaGreatDoor.wd Go.Proofs.YtohdcmmkbblhkaaGreatDoor.tj
open Go.Proofs.YtohdcmmkbblhkaaGreatDoor.inn (rsS mem_rsS)
open Go.Proofs.YtohdcmmkbblhkaaGreatDoor.rng (PI)

set_option maxHeartbeats 8000000 in
set_option maxRecDepth 100000 in
theorem order_any (w : World) (A : Option Addr) (cap : Nat) (l : List Ed) (h : EdM w A l) (hl : l.length ≤ 50) :
    Calls Tryz.prog 18 #[.slice A l.length cap] w (OrPost w (orderL l)) := by
  have H := Lib.hid (fun W (hb : Below w.heap.size w W) => h.below hb)
  obtain ⟨i0, hi0, hz0, hz1, hz2⟩ := info_parts inn.info_str
  have Hi := Lib.hid hi0
  have Hz0 := Lib.hid hz0
  have Hz1 := Lib.hid hz1
  have Hz2 := Lib.hid hz2
  obtain ⟨j0, hj0, hy0, hy1, hy2⟩ := info_parts info_te1
  have Hj := Lib.hid hj0
  have Hy0 := Lib.hid hy0
  have Hy1 := Lib.hid hy1
  have Hy2 := Lib.hid hy2
  obtain ⟨k0, hk0, hx0, hx1, hx2⟩ := info_parts info_strs
  have Hk := Lib.hid hk0
  have Hx0 := Lib.hid hx0
  have Hx1 := Lib.hid hx1
  have Hx2 := Lib.hid hx2
  have hP0 := Lib.hid (PI.new w 26 9)
  have hnl := names_len l
  have hsr := Lib.hid (rsS_pw (l.flatMap both))
  have hmem1 : Hid (∀ e ∈ l, e.1 ∈ namesL l) := Lib.hid (fun e he => mem_names.2 ⟨e, he, Or.inl rfl⟩)
  have hmem2 : Hid (∀ e ∈ l, e.2 ∈ namesL l) := Lib.hid (fun e he => mem_names.2 ⟨e, he, Or.inr rfl⟩)
  have hplt := Lib.hid (parts_lt l)
  have hps := Lib.hid (parts_small l)
  clear h hi0 hz0 hz1 hz2 hj0 hy0 hy1 hy2 hk0 hx0 hx1 hx2
  unfold OrPost
  have hOL := Lib.hid (orderL_eq l)
  generalize orderL l = OL at *
  obtain ⟨n, hN⟩ : ∃ n, Hid (n = l.length) := ⟨_, Lib.hid rfl⟩
  rw [← hN.out] at hl hnl ⊢
  go_enter Tryz.func18, Tryz.ntmps18
  go_wp2_with fail
  go_loopw [18] (fun i wr => ∃ (k : Nat) (A : Option Addr) (cap : Nat), k ≤ n ∧ i = .int .i64 k ∧ Hid (PI 26 9 w wr w.heap.size (bothV (l.take k)) A cap)) (fun i _ => n - (intOf i).toNat)
  case atStart => exact ⟨0, _, _, by omega, rfl, hP0⟩
  case round =>
    obtain ⟨k, A1, cap1, hk, rfl, hP⟩ := hrel
    clear hP0
    rename World => wr
    by_cases hkn : k < n
    · have d1 : decide ((k : Int) < (n : Int)) = true := decide_eq_true (by omega)
      have hkl : k < l.length := by rw [← hN.out]; exact hkn
      obtain ⟨g, off, rfl, hg, ca, cb⟩ := ed_at (H.out wr hP.out.on) hkl
      have hts := Lib.hid (List.take_succ_eq_append_getElem hkl)
      have hlk : Hid ((bothV (l.take k)).length = 2 * k) := Lib.hid (by rw [bothV_len, List.length_take]; omega)
      have cz : wr.cell? ⟨w.heap.size, 0, none⟩ = some (.slice A1 (2 * k) cap1) := by
        have := hP.out.bx.cell 0
        rwa [hlk.out] at this
      generalize l[k] = pk at *
      clear hkl hg
      obtain ⟨x, y⟩ := pk
      dsimp only at ca cb
      go_upto_region 5 with fail
      have BX := (Box.new wr 64 #[.string ⟨x.toArray⟩, .string ⟨y.toArray⟩])
      have hP1 := hP.out.below ((Fr.refl [] wr).alloc (.cells #[.string ⟨x.toArray⟩, .string ⟨y.toArray⟩] 64)).all
      clear ca cb cz
      generalize hwx : wr.alloc (.cells #[.string ⟨x.toArray⟩, .string ⟨y.toArray⟩] 64) = wx at *
      have ca : wx.cell? ⟨wr.heap.size, 0, none⟩ = some (.string ⟨x.toArray⟩) := BX.cell 0
      have cb : wx.cell? ⟨wr.heap.size, 1, none⟩ = some (.string ⟨y.toArray⟩) := BX.cell 1
      have cz : wx.cell? ⟨w.heap.size, 0, none⟩ = some (.slice A1 (2 * k) cap1) := by
        have := hP1.bx.cell 0
        rwa [hlk.out] at this
      have HP1 := Lib.hid hP1
      clear BX hP hP1 hwx
      go_wp2_with (at_builtin
                   refine wpList_app (n := 2 * k) (m := 2) (ys := [encStr x, encStr y]) rfl (.tmp 22) (.tmp 27) _ rfl (HP1.out.sg.alloc _) (rd_two _ _ _ _) hlk.out.symm rfl Tryz.underlying26 Hi.out Hz0.out Hz1.out Hz2.out rfl rfl rfl (by simp [encStr, Value.oneCell']) (by omega) (by omega) ?_
                   intro A3 cap3 w3 hs3 f3 b3
                   have hp := HP1.out.app (by decide) hs3 f3 b3
                   rw [hlk.out] at hp
                   have c3 := hp.1.1
                   have z3 := hp.1.2.1
                   have l3 := hp.1.2.2
                   have HP := Lib.hid hp.2.2
                   clear hp hs3 f3 b3)
      have HP2 : Hid (PI 26 9 w (w3.setCell ⟨w.heap.size, 0, none⟩ (.slice A3 (2 * k + 2) cap3)) w.heap.size (bothV (l.take (k + 1))) A3 cap3) := Lib.hid (by rw [hts.out, bothV_snoc]; exact HP.out)
      clear HP HP1
      go_roundw
      case rel => exact ⟨k + 1, A3, cap3, by omega, by go_num, HP2⟩
      case measure => simp [intOf]; omega
    · obtain rfl : k = n := by omega
      have d1 : decide ((k : Int) < (k : Int)) = false := decide_eq_false (by omega)
      have hP1 : Hid (PI 26 9 w wr w.heap.size (bothV l) A1 cap1) := Lib.hid (by
        have := hP.out
        rwa [List.take_of_length_le (by rw [hN.out]; exact Nat.le_refl _)] at this)
      have hbl : Hid ((bothV l).length = 2 * k) := Lib.hid (by rw [bothV_len, hN.out])
      have cz : wr.cell? ⟨w.heap.size, 0, none⟩ = some (.slice A1 (2 * k) cap1) := by
        have := hP1.out.bx.cell 0
        rwa [hbl.out] at this
      have HS := Lib.hid (sorted_any wr A1 cap1 (l.flatMap both) hP1.out.sg.rd (by rw [both_len, ← hN.out]; omega))
      rw [show (l.flatMap both).length = 2 * k by rw [both_len, ← hN.out]] at HS
      unfold LP at HS
      clear hP
      change Hid (Calls _ _ _ _ (fun e w' => ∃ A cap, e = .returned (.slice A (namesL l).length cap) ∧ Rd w' A ((namesL l).map encStr) ∧ Below wr.heap.size wr w')) at HS
      have hsr2 : Hid ((namesL l).Pairwise (· < ·)) := hsr
      clear hsr
      generalize hns : namesL l = ns at *
      obtain ⟨nn, hNN⟩ : ∃ nn, Hid (nn = ns.length) := ⟨_, Lib.hid rfl⟩
      rw [← hNN.out] at hnl HS
      go_wp2_with (go_at_call 25
                   refine HS.out.mono ?_
                   rintro e w1 ⟨A2, c2, rfl, r1, b1⟩
                   have hB := hP1.out.bx.kept (Fr.of_below b1 []) (by simp)
                   have c1 := hB.cell 0
                   have z1 := hB.free 0
                   have l1 := hB.lt
                   rw [hbl.out] at c1
                   simp only [List.getElem?_toArray, List.getElem?_cons_zero] at c1
                   have HR2 := Lib.hid (rd_store r1 hB (fun s h => by cases h) (.slice A2 nn c2))
                   have HB2 := Lib.hid (hB.put 0 (.slice A2 nn c2))
                   have HW2 : Hid (Below w.heap.size w (w1.setCell ⟨w.heap.size, 0, none⟩ (.slice A2 nn c2))) := Lib.hid ((hP1.out.on.trans (b1.mono hP1.out.on.size)).trans (((Fr.refl [w.heap.size] w1).setCell (p := ⟨w.heap.size, 0, none⟩) (Or.inl (by simp)) _).below (by simp) (Nat.le_trans hP1.out.on.size b1.size)))
                   clear HS hP1 hB r1 b1)
      have HB3 : Hid (Box (w1.setCell ⟨w.heap.size, 0, none⟩ (.slice A2 nn c2)) w.heap.size 26 #[.slice A2 nn c2]) := Lib.hid (by simpa using HB2.out)
      clear HB2 c1 z1 l1 cz
      generalize w1.setCell ⟨w.heap.size, 0, none⟩ (.slice A2 nn c2) = w2 at *
      have HC : Hid (∀ W, Below w2.heap.size w2 W → ∀ x ∈ ns, Calls Tryz.prog 35 #[encStr x, .pointer (some ⟨w.heap.size, 0, none⟩)] W fun e w' => e = .returned (.int .i64 (numI ns x)) ∧ W = w') := Lib.hid (fun W hb x hx => order1_any W w.heap.size A2 c2 ns x (by rw [← hNN.out]; exact HB3.out.kept (Fr.of_below hb []) (by simp)) (HR2.out.below hb) hsr2.out (by rw [← hNN.out]; omega) hx)
      have hE0 := Lib.hid (EN.new 68 w2 (numE ns l))
      have hel : Hid ((numE ns l).length = k) := Lib.hid (by rw [numE_len, hN.out])
      go_loopw [35, 7] (fun i s wr => ∃ (q : Nat) (B : Option Addr) (c : Nat), q ≤ k ∧ i = .int .i64 q ∧ s = .slice B q c ∧ Hid (EN 68 w2 wr (numE ns l) q B c)) (fun i _ _ => k - (intOf i).toNat)
      case atStart => exact ⟨0, none, 0, by omega, rfl, rfl, hE0⟩
      case round =>
        obtain ⟨q, B, c, hq, rfl, rfl, hE⟩ := hrel
        clear hE0
        rename World => wy
        by_cases hqk : q < k
        · have e1 : decide ((q : Int) < (k : Int)) = true := decide_eq_true (by omega)
          have hql : q < l.length := by rw [← hN.out]; exact hqk
          obtain ⟨g, off, rfl, hg, ca, cb⟩ := ed_at (H.out wy (HW2.out.trans (hE.out.on.mono HW2.out.size))) hql
          have hm1 := hmem1.out _ (List.getElem_mem hql)
          have hm2 := hmem2.out _ (List.getElem_mem hql)
          have hqe : q < (numE ns l).length := by rw [hel.out]; exact hqk
          have hat := Lib.hid (numE_at hql hqe)
          generalize l[q] = pk at *
          clear hg
          obtain ⟨x, y⟩ := pk
          dsimp only at ca cb hm1 hm2 hat
          go_upto_region 13 with fail
          have BX := (Box.new wy 64 #[.string ⟨x.toArray⟩, .string ⟨y.toArray⟩])
          have hF1 := Lib.hid ((Fr.refl [] wy).alloc (.cells #[.string ⟨x.toArray⟩, .string ⟨y.toArray⟩] 64)).drew
          have hsz : wy.heap.size < (wy.alloc (.cells #[.string ⟨x.toArray⟩, .string ⟨y.toArray⟩] 64)).drew.heap.size := by simp [World.drew]
          have BX2 : Box (wy.alloc (.cells #[.string ⟨x.toArray⟩, .string ⟨y.toArray⟩] 64)).drew wy.heap.size 64 #[.string ⟨x.toArray⟩, .string ⟨y.toArray⟩] := BX
          clear ca cb BX
          obtain ⟨wx, hwx⟩ : ∃ wx, wx = wy.alloc (.cells #[.string ⟨x.toArray⟩, .string ⟨y.toArray⟩] 64) := ⟨_, rfl⟩
          rw [← hwx] at hF1 BX2 hsz ⊢
          clear hwx
          have K1 := Lib.hid (HC.out wx.drew (hE.out.on.trans (hF1.out.all.mono hE.out.on.size)) x hm1)
          have K2 := Lib.hid (HC.out wx.drew (hE.out.on.trans (hF1.out.all.mono hE.out.on.size)) y hm2)
          have ca : wx.drew.cell? ⟨wy.heap.size, 0, none⟩ = some (.string ⟨x.toArray⟩) := BX2.cell 0
          have cb : wx.drew.cell? ⟨wy.heap.size, 1, none⟩ = some (.string ⟨y.toArray⟩) := BX2.cell 1
          have HX := Lib.hid BX2
          have hes : Sg 2 wx.drew 68 B c q (fi ((numE ns l).take q)) := hE.out.sg.kept hF1.out (by simp)
          have HES := Lib.hid hes
          clear BX2 hes hm1 hm2
          generalize numI ns x = zx at *
          generalize numI ns y = zy at *
          unfold encStr at K1 K2
          have hBn : Hid (∀ g ∈ blk B, g ≠ wy.heap.size) := Lib.hid (fun g hg e => by have := hE.out.sg.lt g hg; omega)
          obtain ⟨S, hSd⟩ : ∃ S : World → Prop, Hid (∀ W', S W' ↔ (W'.cell? ⟨wy.heap.size, 0, none⟩ = some (.string ⟨x.toArray⟩) ∧ W'.cell? ⟨wy.heap.size, 1, none⟩ = some (.string ⟨y.toArray⟩))) := ⟨_, Lib.hid fun _ => Iff.rfl⟩
          have hS1 : S wx.drew := (hSd.out _).2 ⟨ca, cb⟩
          have keepS : Hid (∀ W F, Fr F wx.drew W → wy.heap.size ∉ F → S W) := Lib.hid (fun W F hF hn => (hSd.out _).2 ⟨(HX.out.kept hF hn).cell 0, (HX.out.kept hF hn).cell 1⟩)
          clear ca cb
          refine rng.wp_normal ?_
          refine wp_region_held_drew (S := S) (by kernel_rfl) hS1 (fun _ => ?_)
          generalize hwd : wx.drew = wz at *
          refine wpAnyH_take (i := 0) (v := (.slice B q c)) rfl (by kernel_rfl) (by kernel_rfl) (by kernel_rfl) (fun _ _ _ h => absurd h.1 (by simp)) (Or.inl ⟨by kernel_rfl, ?_⟩) hS1 ?_
          · intro W' hSw
            obtain ⟨s0, s1⟩ := (hSd.out _).1 hSw
            go_simp
          try change wpAnyH _ _ _ _ _ _ _ (Act.put _ (some 39) _) _
          try simp only [Act.put, List.setIfInBounds_toArray, List.set_cons_zero, List.set_cons_succ]
          refine wpAnyH_take (i := 1) (v := (.func (.func 35) #[] #[.pointer (some ⟨w.heap.size, 0, none⟩)])) rfl (by kernel_rfl) (by kernel_rfl) (by kernel_rfl) (fun _ _ _ h => absurd h.1 (by simp)) (Or.inl ⟨by kernel_rfl, ?_⟩) hS1 ?_
          · intro W' hSw
            obtain ⟨s0, s1⟩ := (hSd.out _).1 hSw
            go_simp
          try change wpAnyH _ _ _ _ _ _ _ (Act.put _ (some 40) _) _
          try simp only [Act.put, List.setIfInBounds_toArray, List.set_cons_zero, List.set_cons_succ]
          refine wpAnyH_take (i := 2) (v := (.pointer (some ⟨wy.heap.size, 0, none⟩))) rfl (by kernel_rfl) (by kernel_rfl) (by kernel_rfl) (fun _ _ _ h => absurd h.1 (by simp)) (Or.inl ⟨by kernel_rfl, ?_⟩) hS1 ?_
          · intro W' hSw
            obtain ⟨s0, s1⟩ := (hSd.out _).1 hSw
            go_simp
          try change wpAnyH _ _ _ _ _ _ _ (Act.put _ (some 41) _) _
          try simp only [Act.put, List.setIfInBounds_toArray, List.set_cons_zero, List.set_cons_succ]
          refine wpAnyH_take (i := 3) (v := (.string ⟨x.toArray⟩)) rfl (by kernel_rfl) (by kernel_rfl) (by kernel_rfl) (fun _ _ _ h => absurd h.1 (by simp)) (Or.inl ⟨by kernel_rfl, ?_⟩) hS1 ?_
          · intro W' hSw
            obtain ⟨s0, s1⟩ := (hSd.out _).1 hSw
            go_simp
          try change wpAnyH _ _ _ _ _ _ _ (Act.put _ (some 42) _) _
          try simp only [Act.put, List.setIfInBounds_toArray, List.set_cons_zero, List.set_cons_succ]
          refine wpAnyH_take (i := 5) (v := (.func (.func 35) #[] #[.pointer (some ⟨w.heap.size, 0, none⟩)])) rfl (by kernel_rfl) (by kernel_rfl) (by kernel_rfl) (fun _ _ _ h => absurd h.1 (by simp)) (Or.inl ⟨by kernel_rfl, ?_⟩) hS1 ?_
          · intro W' hSw
            obtain ⟨s0, s1⟩ := (hSd.out _).1 hSw
            go_simp
          try change wpAnyH _ _ _ _ _ _ _ (Act.put _ (some 44) _) _
          try simp only [Act.put, List.setIfInBounds_toArray, List.set_cons_zero, List.set_cons_succ]
          refine wpAnyH_take (i := 6) (v := (.pointer (some ⟨wy.heap.size, 1, none⟩))) rfl (by kernel_rfl) (by kernel_rfl) (by kernel_rfl) (fun _ _ _ h => absurd h.1 (by simp)) (Or.inl ⟨by kernel_rfl, ?_⟩) hS1 ?_
          · intro W' hSw
            obtain ⟨s0, s1⟩ := (hSd.out _).1 hSw
            go_simp
          try change wpAnyH _ _ _ _ _ _ _ (Act.put _ (some 45) _) _
          try simp only [Act.put, List.setIfInBounds_toArray, List.set_cons_zero, List.set_cons_succ]
          refine wpAnyH_take (i := 7) (v := (.string ⟨y.toArray⟩)) rfl (by kernel_rfl) (by kernel_rfl) (by kernel_rfl) (fun _ _ _ h => absurd h.1 (by simp)) (Or.inl ⟨by kernel_rfl, ?_⟩) hS1 ?_
          · intro W' hSw
            obtain ⟨s0, s1⟩ := (hSd.out _).1 hSw
            go_simp
          try change wpAnyH _ _ _ _ _ _ _ (Act.put _ (some 46) _) _
          try simp only [Act.put, List.setIfInBounds_toArray, List.set_cons_zero, List.set_cons_succ]
          refine wpAnyH_ready (rs := [4]) (by kernel_rfl) (by simp) ?_
          refine AllReadyH.cons rfl (fun K hK => ?_) AllReadyH.nil
          go_simp
          refine K1.out.mono ?_
          rintro e v3 ⟨rfl, rfl⟩
          refine hK.out _ _ hS1 (fun _ => ?_)
          clear hK K1
          try simp only [Act.put, List.setIfInBounds_toArray, List.set_cons_zero, List.set_cons_succ]
          refine wpAnyH_ready (rs := [8]) (by kernel_rfl) (by simp) ?_
          refine AllReadyH.cons rfl (fun K hK => ?_) AllReadyH.nil
          go_simp
          refine K2.out.mono ?_
          rintro e v3 ⟨rfl, rfl⟩
          refine hK.out _ _ hS1 (fun _ => ?_)
          clear hK K2
          try simp only [Act.put, List.setIfInBounds_toArray, List.set_cons_zero, List.set_cons_succ]
          refine wpAnyH_take (i := 9) (v := (.agg #[.int .i64 zx, .int .i64 zy])) rfl (by kernel_rfl) (by kernel_rfl) (by kernel_rfl) (fun _ _ _ h => absurd h.1 (by simp)) (Or.inl ⟨by kernel_rfl, ?_⟩) hS1 ?_
          · intro W' hSw
            obtain ⟨s0, s1⟩ := (hSd.out _).1 hSw
            go_simp
          try change wpAnyH _ _ _ _ _ _ _ (Act.put _ (some 48) _) _
          try simp only [Act.put, List.setIfInBounds_toArray, List.set_cons_zero, List.set_cons_succ]
          refine wpAnyH_ready (rs := [10]) (by kernel_rfl) (by simp) ?_
          refine AllReadyH.cons rfl (fun K hK => ?_) AllReadyH.nil
          go_simp
          have hS2 := keepS.out _ [] ((Fr.refl [] wz).alloc (.cells #[.int .i64 zx, .int .i64 zy] 68)) (by simp)
          refine hK.out _ _ hS2 (fun _ => ?_)
          clear hK
          try simp only [Act.put, List.setIfInBounds_toArray, List.set_cons_zero, List.set_cons_succ]
          refine wpAnyH_ready (rs := [11]) (by kernel_rfl) (by simp) ?_
          refine AllReadyH.cons rfl (fun K hK => ?_) AllReadyH.nil
          refine step_row (us := [.int .i64 zx, .int .i64 zy]) (by rfl) (.tmp 39) (.tmp 49) _ (by rfl) (HES.out.alloc _) Tryz.underlying66 Hj.out Hy0.out Hy1.out Hy2.out rfl (by rfl) (by rfl) rfl (two_cells _ _ _ _) (by simp [Value.oneCell']) (by omega) (by omega) ?_
          intro A4 cap4 w4 hs4 f4 hb4
          have h04 := ((Fr.refl [] wz).alloc (.cells #[.int .i64 zx, .int .i64 zy] 68)).trans (G := blk B) f4 (fun g hg => (by cases hg)) (fun g hg => Or.inl hg)
          have hS4 := keepS.out _ _ h04 (fun hg => hBn.out _ hg rfl)
          have hE4 : Hid (EN 68 w2 w4 (numE ns l) (q + 1) A4 cap4) := Lib.hid (hE.out.push hqe hF1.out (by rw [hat.out]; exact hs4) f4 hb4)
          refine hK.out _ _ hS4 (fun _ => ?_)
          clear hK
          try simp only [Act.put, List.setIfInBounds_toArray, List.set_cons_zero, List.set_cons_succ]
          refine wpAnyH_ready (rs := [12]) (by kernel_rfl) (by simp) ?_
          refine AllReadyH.cons rfl (fun K hK => ?_) AllReadyH.nil
          go_simp
          refine hK.out _ _ hS4 (fun _ => ?_)
          clear hK hS4 h04 hs4 f4 hb4 hE hS1 hS2 keepS hSd HES HX hF1
          try simp only [Act.put, List.setIfInBounds_toArray, List.set_cons_zero, List.set_cons_succ]
          refine wpAnyH_done (by kernel_rfl) ?_ _
          refine ⟨rfl, ?_⟩
          go_wp2_with fail
          go_roundw
          case rel => exact ⟨q + 1, A4, cap4, by omega, by go_num, rfl, hE4⟩
          case measure => simp [intOf]; omega
        · obtain rfl : q = k := by omega
          have e1 : decide ((q : Int) < (q : Int)) = false := decide_eq_false (by omega)
          have hgr : Hid (gr l = gof (nn : Int) (numE ns l)) := Lib.hid (by unfold gr; rw [hns, hNN.out])
          have hEd : Eds wy B (numE ns l) := by
            have := hE.out
            rw [← hel.out] at this
            exact this.eds
          have HP := Lib.hid (parts_any (nn : Int) (by omega) B c (numE ns l) (by rw [hel.out]; omega) wy hEd)
          rw [hel.out, ← hgr.out] at HP
          unfold PaPost at HP
          have HW3 : Hid (Below w2.heap.size w2 wy) := Lib.hid hE.out.on
          have cz : wy.cell? ⟨w.heap.size, 0, none⟩ = some (.slice A2 nn c2) := (HB3.out.kept (Fr.of_below hE.out.on []) (by simp)).cell 0
          clear hE hEd HC
          go_wp2_with fail
          refine HP.out.mono ?_
          rintro e w3 ⟨A3, c3, rows, rfl, hL, hsA, hrw, hb3⟩
          have hb2 : Below w2.heap.size w2 w3 := HW3.out.trans (hb3.mono HW3.out.size)
          have HW4 : Hid (Below w.heap.size w w3) := Lib.hid (HW2.out.trans (hb2.mono HW2.out.size))
          have HB : Hid (∀ W, Below w3.heap.size w3 W → W.cell? ⟨w.heap.size, 0, none⟩ = some (.slice A2 nn c2) ∧ Rd W A2 (ns.map encStr)) := Lib.hid (fun W hb => ⟨((HB3.out.kept (Fr.of_below hb2 []) (by simp)).kept (Fr.of_below hb []) (by simp)).cell 0, (HR2.out.below hb2).below hb⟩)
          have HRA : Hid (∀ W, Below w3.heap.size w3 W → Rd W A3 (rows.map tj.hdr)) := Lib.hid (fun W hb => hsA.rd.below hb)
          have HRR : Hid (∀ r ∈ rows, ∀ W, Below w3.heap.size w3 W → Rd W r.A (natI r.xs)) := Lib.hid (fun r hr W hb => (hrw r hr).below hb)
          have hlt : Hid (∀ r ∈ rows, ∀ v ∈ r.xs, v < nn) := Lib.hid (fun r hr v hv => by
            have := hplt.out r.xs (by rw [← hL]; exact List.mem_map.2 ⟨r, hr, rfl⟩) v hv
            rwa [hNN.out])
          have hOL2 : Hid (OL = (rows.map (·.xs)).map (textsP ns)) := Lib.hid (by rw [hL]; exact hOL.out)
          have hQ0 := Lib.hid (QO.new w3)
          have hL2 : Hid (rows.map (·.xs) = (gr l).parts) := Lib.hid hL
          clear HP hL hsA hrw hb3 hb2 HB3 HR2 cz hplt hOL HW3 HW2 hgr
          obtain ⟨np, hNP⟩ : ∃ np, Hid (np = rows.length) := ⟨_, Lib.hid rfl⟩
          rw [← hNP.out]
          have hnp : np ≤ nn := by
            have := hps.out.1
            rw [← hL2.out, List.length_map] at this
            have h2 := hNP.out
            have h3 := hNN.out
            omega
          have hpl : Hid (∀ r ∈ rows, r.xs.length ≤ nn) := Lib.hid (fun r hr => by
            have := hps.out.2 r.xs (by rw [← hL2.out]; exact List.mem_map.2 ⟨r, hr, rfl⟩)
            rwa [hNN.out])
          clear hps hL2
          go_wp2_with fail
          go_loopw [57, 10] (fun i s wr => ∃ (p : Nat) (Ao : Option Addr) (co : Nat), p ≤ np ∧ i = .int .i64 p ∧ s = .slice Ao p co ∧ Hid (∃ tr : List TRow, QO w3 wr Ao co tr ∧ tr.length = p ∧ tr.map (·.xs) = ((rows.map (·.xs)).take p).map (textsP ns))) (fun i _ _ => np - (intOf i).toNat)
          case atStart => exact ⟨0, none, 0, by omega, rfl, rfl, Lib.hid ⟨[], hQ0.out, rfl, by simp⟩⟩
          case round =>
            obtain ⟨pp, Ao, co, hpp, rfl, rfl, hQ⟩ := hrel
            clear hQ0
            rename World => wv
            by_cases hpn : pp < np
            · have e2 : decide ((pp : Int) < (np : Int)) = true := decide_eq_true (by omega)
              have hpr : pp < rows.length := by rw [← hNP.out]; exact hpn
              have hon : Hid (Below w3.heap.size w3 wv) := Lib.hid (by obtain ⟨_, h, _⟩ := hQ.out; exact h.on)
              obtain ⟨g3, o3, rfl, hg3, cr⟩ := row_at (HRA.out wv hon.out) hpr
              have hrr := Lib.hid (HRR.out _ (List.getElem_mem hpr))
              have hrl := hpl.out _ (List.getElem_mem hpr)
              have hrt := Lib.hid (hlt.out _ (List.getElem_mem hpr))
              have htk := Lib.hid (List.take_succ_eq_append_getElem (l := rows.map (·.xs)) (i := pp) (by rw [List.length_map]; exact hpr))
              rw [List.getElem_map] at htk
              generalize rows[pp] = r at *
              obtain ⟨rA, rc, rx⟩ := r
              unfold tj.hdr at cr
              dsimp only at cr hrr hrl hrt htk
              obtain ⟨rn, hRN⟩ : ∃ rn, Hid (rn = rx.length) := ⟨_, Lib.hid rfl⟩
              rw [← hRN.out] at cr hrl
              have hT0 : Hid (TL wv wv none 0 (textsP ns (rx.take 0))) := Lib.hid (TL.nil (Below.refl _ _))
              go_wp2_with fail
              clear cr
              go_loopw [63, 13] (fun i s wr => ∃ (q2 : Nat) (Ap : Option Addr) (cp : Nat), q2 ≤ rn ∧ i = .int .i64 q2 ∧ s = .slice Ap q2 cp ∧ Hid (TL wv wr Ap cp (textsP ns (rx.take q2)))) (fun i _ _ => rn - (intOf i).toNat)
              case atStart => exact ⟨0, none, 0, by omega, rfl, rfl, hT0⟩
              case round =>
                obtain ⟨q2, Ap, cp, hq2, rfl, rfl, hT⟩ := hrel
                clear hT0
                rename World => wu
                by_cases hqr : q2 < rn
                · have e3 : decide ((q2 : Int) < (rn : Int)) = true := decide_eq_true (by omega)
                  have hqx : q2 < rx.length := by rw [← hRN.out]; exact hqr
                  have hbu : Below w3.heap.size w3 wu := hon.out.trans (hT.out.fr.mono hon.out.size)
                  obtain ⟨g4, o4, rfl, hg4, cv⟩ := nat_at (hrr.out wu hbu) hqx
                  have hv := hrt.out _ (List.getElem_mem hqx)
                  obtain ⟨cb, hRn⟩ := HB.out wu hbu
                  have hvl : rx[q2] < ns.length := by rw [← hNN.out]; exact hv
                  obtain ⟨g5, o5, rfl, hg5, cn⟩ := rd_at hRn hvl
                  have htx : Hid (textsP ns (rx.take (q2 + 1)) = textsP ns (rx.take q2) ++ [ns[rx[q2]]]) := Lib.hid (by rw [List.take_succ_eq_append_getElem hqx, textsP_snoc, List.getD_eq_getElem?_getD, List.getElem?_eq_getElem hvl]; rfl)
                  have hlen : Hid (q2 = (List.map encStr (textsP ns (rx.take q2))).length) := Lib.hid (by rw [List.length_map, textsP_len, List.length_take]; omega)
                  clear hRn
                  generalize hns5 : ns[rx[q2]] = tx at *
                  clear hns5 hvl
                  generalize rx[q2] = vv at *
                  unfold encStr at cn
                  go_wp2_with (at_builtin
                               refine wpList_push (n := q2) (u := encStr tx) rfl (.tmp 67) (.tmp 72) _ rfl (hT.out.seg.alloc _) hlen.out Tryz.underlying26 Hi.out Hz0.out Hz1.out Hz2.out rfl rfl rfl (new_cell _ _ _) rfl (by omega) (by omega) ?_
                               intro A4 cap4 w4 hs4 f4 hb4)
                  have hT4 : Hid (TL wv w4 A4 cap4 (textsP ns (rx.take (q2 + 1)))) := Lib.hid (by rw [htx.out]; exact hT.out.push hs4 f4 hb4)
                  clear hs4 f4 hb4 hT cv cn cb
                  go_roundw
                  case rel => exact ⟨q2 + 1, A4, cap4, by omega, by go_num, rfl, hT4⟩
                  case measure => simp [intOf]; omega
                · obtain rfl : q2 = rn := by omega
                  have e3 : decide ((q2 : Int) < (q2 : Int)) = false := decide_eq_false (by omega)
                  have hpn2 : np ≤ 100 := by omega
                  obtain ⟨tr, hQ1, hQ2, hQ3⟩ := hQ.out
                  have hQu := Lib.hid (hQ1.below hT.out.fr)
                  have hrx : rx.take q2 = rx := List.take_of_length_le (by rw [hRN.out]; exact Nat.le_refl _)
                  rw [hrx] at hT
                  have hlx : Hid ((textsP ns rx).length = q2) := Lib.hid (by rw [textsP_len, hRN.out])
                  have hlen : Hid (pp = (List.map hdT tr).length) := Lib.hid (by rw [List.length_map, hQ2])
                  have hQ2 := Lib.hid hQ2
                  have hQ3 := Lib.hid hQ3
                  clear hQ hQ1 hrx
                  go_wp2_with (at_builtin
                               refine wpList_push (n := pp) (u := .slice Ap q2 cp) rfl (.tmp 75) (.tmp 77) _ rfl (hQu.out.so.alloc _) hlen.out Tryz.underlying32 Hk.out Hx0.out Hx1.out Hx2.out rfl rfl rfl (new_cell _ _ _) rfl (by omega) (by omega) ?_
                               intro A5 cap5 w5 hs5 f5 hb5)
                  have hQ4 : Hid (∃ tr : List TRow, QO w3 w5 A5 cap5 tr ∧ tr.length = pp + 1 ∧ tr.map (·.xs) = ((rows.map (·.xs)).take (pp + 1)).map (textsP ns)) := Lib.hid ⟨tr ++ [⟨Ap, cp, textsP ns rx⟩], hQu.out.close (r := ⟨Ap, cp, textsP ns rx⟩) hT.out.seg (by unfold hdT; dsimp only; rw [hlx.out]; exact hs5) f5 hb5, by rw [List.length_append, hQ2.out]; rfl, by rw [htk.out, List.map_append, List.map_append, hQ3.out]; rfl⟩
                  clear hs5 f5 hb5 hQu hT
                  go_roundw
                  case rel => exact ⟨pp + 1, A5, cap5, by omega, by go_num, rfl, hQ4⟩
                  case measure => simp [intOf]; omega
            · obtain rfl : pp = np := by omega
              have e2 : decide ((pp : Int) < (pp : Int)) = false := decide_eq_false (by omega)
              have fin : Hid (∃ A c rows, Ending.returned (.slice Ao pp co) = .returned (.slice A (List.length rows) c) ∧ List.map (·.xs) rows = OL ∧ Rd wv A (List.map hdT rows) ∧ (∀ r ∈ rows, Rd wv r.A (r.xs.map encStr) ∧ r.xs.length ≤ r.cap) ∧ Below w.heap.size w wv) := Lib.hid (by
                obtain ⟨tr, h1, h2, h3⟩ := hQ.out
                refine ⟨Ao, co, tr, by rw [h2], ?_, h1.so.rd, fun r hr => ⟨(h1.rw_ r hr).rd, by have := (h1.rw_ r hr).1; rwa [List.length_map] at this⟩, HW4.out.trans (h1.on.mono HW4.out.size)⟩
                rw [h3, hOL2.out, List.take_of_length_le (by rw [List.length_map, hNP.out]; exact Nat.le_refl _)])
              clear hQ
              go_wp2_with fail
              go_ret
              exact fin.out
end Go.Proofs.YtohdcmmkbblhkaaGreatDoor.qy

/-
  query: the little program of works(): in memory.
-/
set_option linter.all false
namespace Go.Proofs.YtohdcmmkbblhkaaGreatDoor.qy
open Go.RowKit Go.Sort Go.Shelf Go.Proofs.YtohdcmmkbblhkaaGreatDoor.mem Go.Proofs.YtohdcmmkbblhkaaGreatDoor.wd
open Go.Proofs.YtohdcmmkbblhkaaGreatDoor.inn (rsS mem_rsS)
open Go.Proofs.YtohdcmmkbblhkaaGreatDoor.ins (WF)
open Go.Proofs.YtohdcmmkbblhkaaGreatDoor.nm (Tab tab_below)

theorem wk_eds (w : World) : EdM (w.alloc (.cells #[encStr [102], encStr [103], encStr [103], encStr [104], encStr [103], encStr [102]] 64)) (some ⟨w.heap.size, 0, none⟩) wkE := fun _ => by
  refine ⟨w.heap.size, 0, rfl, by simp, fun j hj i v hv => ?_⟩
  have hb := (Box.new w 64 #[encStr [102], encStr [103], encStr [103], encStr [104], encStr [103], encStr [102]]).cell (0 + j * 2 + i)
  rw [hb]
  have hj3 : j < 3 := hj
  rcases j with _ | _ | _ | j
  · rcases i with _ | _ | i <;> simp_all [wkE, edRow]
  · rcases i with _ | _ | i <;> simp_all [wkE, edRow]
  · rcases i with _ | _ | i <;> simp_all [wkE, edRow]
  · omega

/-- a literal list of texts -/
theorem rd_cells (w : World) (t : TypeId) (l : List T) : Rd (w.alloc (.cells (l.map encStr).toArray t)) (some ⟨w.heap.size, 0, none⟩) (l.map encStr) := fun _ => by
  refine ⟨w.heap.size, 0, rfl, by simp, fun j hj => ?_⟩
  have hb := (Box.new w t (l.map encStr).toArray).cell (0 + j)
  rw [hb, Nat.zero_add]
  simp [List.getElem?_eq_getElem hj]

def wkMF (a b : Nat) : List MF := [⟨⟨wkP, [[103, 40, 41], wkX]⟩, some ⟨a, 0, none⟩, 2⟩, ⟨⟨wkQ, [wkX]⟩, some ⟨b, 0, none⟩, 1⟩]
theorem wk_facs (a b : Nat) : facs (wkMF a b) = wkF := rfl
theorem wk_fac (w : World) (a b : Nat) (ha : Rd w (some ⟨a, 0, none⟩) ([[103, 40, 41], wkX].map encStr)) (hb : Rd w (some ⟨b, 0, none⟩) ([wkX].map encStr)) :
    FacM (w.alloc (.cells #[encStr wkP, .slice (some ⟨a, 0, none⟩) 2 2, encStr wkQ, .slice (some ⟨b, 0, none⟩) 1 1] 48)) (some ⟨w.heap.size, 0, none⟩) (wkMF a b) := by
  refine ⟨fun _ => ⟨w.heap.size, 0, rfl, by simp, fun j hj i v hv => ?_⟩, fun x hx => ?_, show (2 : Nat) ≤ maxLen by decide⟩
  · have hc := (Box.new w 48 #[encStr wkP, .slice (some ⟨a, 0, none⟩) 2 2, encStr wkQ, .slice (some ⟨b, 0, none⟩) 1 1]).cell (0 + j * 2 + i)
    rw [hc]
    have hj3 : j < 2 := hj
    rcases j with _ | _ | j
    · rcases i with _ | _ | i <;> simp_all [wkMF, MF.row]
    · rcases i with _ | _ | i <;> simp_all [wkMF, MF.row]
    · omega
  · unfold wkMF at hx
    simp only [List.mem_cons, List.not_mem_nil, or_false] at hx
    rcases hx with rfl | rfl
    · exact ⟨show wkP.length ≤ maxLen by decide, ha.alloc _, show (2 : Nat) ≤ maxLen by decide, show ∀ s ∈ [[103, 40, 41], wkX], s.length ≤ maxLen by decide⟩
    · exact ⟨show wkQ.length ≤ maxLen by decide, hb.alloc _, show (1 : Nat) ≤ maxLen by decide, show ∀ s ∈ [wkX], s.length ≤ maxLen by decide⟩
end Go.Proofs.YtohdcmmkbblhkaaGreatDoor.qy

/-
  query: the little program of works(): walked.
-/
set_option linter.all false
namespace Go.Proofs.YtohdcmmkbblhkaaGreatDoor.qy
open Go.RowKit Go.Sort Go.Shelf Go.Proofs.YtohdcmmkbblhkaaGreatDoor.mem Go.Proofs.YtohdcmmkbblhkaaGreatDoor.wd
open Go.Proofs.YtohdcmmkbblhkaaGreatDoor.inn (rsS mem_rsS)
open Go.Proofs.YtohdcmmkbblhkaaGreatDoor.ins (WF)
open Go.Proofs.YtohdcmmkbblhkaaGreatDoor.nm (Tab tab_below)

set_option maxHeartbeats 4000000 in
set_option maxRecDepth 100000 in
theorem works_any (w : World) (htab : Tab w) : Calls Tryz.prog 15 #[] w (BP true w) := by
  have HT := Lib.hid (fun W (hb : Below w.heap.size w W) => tab_below htab hb)
  have HO := Lib.hid (order_any _ (some ⟨w.heap.size, 0, none⟩) 3 wkE (wk_eds w) (by decide))
  rw [wk_order] at HO
  unfold OrPost at HO
  have HE := Lib.hid (wk_eds w)
  have HB1 : Hid (Below w.heap.size w (w.alloc (.cells #[encStr [102], encStr [103], encStr [103], encStr [104], encStr [103], encStr [102]] 64))) := Lib.hid ((Below.refl _ w).alloc (Nat.le_refl _) _)
  change Hid (Calls _ _ #[.slice _ 3 3] (w.alloc (.cells #[.string ⟨#[102]⟩, .string ⟨#[103]⟩, .string ⟨#[103]⟩, .string ⟨#[104]⟩, .string ⟨#[103]⟩, .string ⟨#[102]⟩] 64)) _) at HO
  change Hid (Below w.heap.size w (w.alloc (.cells #[.string ⟨#[102]⟩, .string ⟨#[103]⟩, .string ⟨#[103]⟩, .string ⟨#[104]⟩, .string ⟨#[103]⟩, .string ⟨#[102]⟩] 64))) at HB1
  clear htab
  unfold BP
  go_enter Tryz.func15, Tryz.ntmps15
  go_wp2_with fail
  refine HO.out.mono ?_
  rintro e w2 ⟨A2, c2, r2, rfl, m2, h2, q2, b2⟩
  rcases r2 with _ | ⟨ra, _ | ⟨rb, _ | ⟨rc, r2⟩⟩⟩
  · simp at m2
  · simp at m2
  · obtain ⟨a1, k1, y1⟩ := ra
    obtain ⟨a2, k2, y2⟩ := rb
    simp only [List.map_cons, List.map_nil, List.cons.injEq, and_true] at m2
    obtain ⟨rfl, rfl⟩ := m2
    have HB2 := Lib.hid (HB1.out.trans (b2.mono HB1.out.size))
    have HR : Hid (∀ W, Below w2.heap.size w2 W → RT W A2 [⟨a1, k1, [[104]]⟩, ⟨a2, k2, [[102], [103]]⟩]) := Lib.hid (fun W hb => RT.below ⟨h2, fun r hr => (q2 r hr).1⟩ hb)
    have HE2 : Hid (∀ W, Below w2.heap.size w2 W → EdM W (some ⟨w.heap.size, 0, none⟩) wkE) := Lib.hid (fun W hb => (HE.out.below b2).below hb)
    clear h2 q2 b2 HO HE HB1
    go_upto_region 4 with fail
    have f3 : Fr [] w2 (((w2.alloc (.cells #[.string ⟨#[103, 40, 41]⟩, .string ⟨#[120, 43, 48]⟩] 9)).alloc (.cells #[.string ⟨#[120, 43, 48]⟩] 9)).alloc (.cells #[.string ⟨#[102, 46, 112]⟩, .slice (some ⟨w2.heap.size, 0, none⟩) 2 2, .string ⟨#[102, 46, 113]⟩, .slice (some ⟨w2.heap.size + 1, 0, none⟩) 1 1] 48)) := (((Fr.refl [] w2).alloc _).alloc _).alloc _
    have hx1 : Rd ((w2.alloc (.cells #[.string ⟨#[103, 40, 41]⟩, .string ⟨#[120, 43, 48]⟩] 9)).alloc (.cells #[.string ⟨#[120, 43, 48]⟩] 9)) (some ⟨w2.heap.size, 0, none⟩) ([[103, 40, 41], wkX].map encStr) := (rd_cells w2 9 [[103, 40, 41], wkX]).alloc _
    have hx2 : Rd ((w2.alloc (.cells #[.string ⟨#[103, 40, 41]⟩, .string ⟨#[120, 43, 48]⟩] 9)).alloc (.cells #[.string ⟨#[120, 43, 48]⟩] 9)) (some ⟨w2.heap.size + 1, 0, none⟩) ([wkX].map encStr) := by
      have := rd_cells (w2.alloc (.cells #[.string ⟨#[103, 40, 41]⟩, .string ⟨#[120, 43, 48]⟩] 9)) 9 [wkX]
      rw [World.size_alloc] at this
      exact this
    have HX := wk_fac ((w2.alloc (.cells #[.string ⟨#[103, 40, 41]⟩, .string ⟨#[120, 43, 48]⟩] 9)).alloc (.cells #[.string ⟨#[120, 43, 48]⟩] 9)) w2.heap.size (w2.heap.size + 1) hx1 hx2
    rw [World.size_alloc, World.size_alloc] at HX
    change FacM (((w2.alloc (.cells #[.string ⟨#[103, 40, 41]⟩, .string ⟨#[120, 43, 48]⟩] 9)).alloc (.cells #[.string ⟨#[120, 43, 48]⟩] 9)).alloc (.cells #[.string ⟨#[102, 46, 112]⟩, .slice (some ⟨w2.heap.size, 0, none⟩) 2 2, .string ⟨#[102, 46, 113]⟩, .slice (some ⟨w2.heap.size + 1, 0, none⟩) 1 1] 48)) _ _ at HX
    generalize hw3 : (((w2.alloc (.cells #[.string ⟨#[103, 40, 41]⟩, .string ⟨#[120, 43, 48]⟩] 9)).alloc (.cells #[.string ⟨#[120, 43, 48]⟩] 9)).alloc (.cells #[.string ⟨#[102, 46, 112]⟩, .slice (some ⟨w2.heap.size, 0, none⟩) 2 2, .string ⟨#[102, 46, 113]⟩, .slice (some ⟨w2.heap.size + 1, 0, none⟩) 1 1] 48)) = w3 at *
    have HR3 := Lib.hid (fun W (hb : Below w3.heap.size w3 W) => HR.out W (f3.all.trans (hb.mono f3.size)))
    have HE3 := Lib.hid (fun W (hb : Below w3.heap.size w3 W) => HE2.out W (f3.all.trans (hb.mono f3.size)))
    have HB3 := Lib.hid (HB2.out.trans (f3.all.mono HB2.out.size))
    have HX3 := Lib.hid (fun W (hb : Below w3.heap.size w3 W) => HX.below hb)
    clear hx1 hx2 HX hw3 f3 HR HE2 HB2
    obtain ⟨g, o, rfl, hg, ca⟩ := trow_at (HR3.out w3 (Below.refl _ _)).hd (k := 0) (by simp)
    obtain ⟨g', o', e', hg', cb⟩ := trow_at (HR3.out w3 (Below.refl _ _)).hd (k := 1) (by simp)
    injection e' with e'
    injection e' with e1 e2
    subst e1
    subst e2
    obtain ⟨g1, o1, rfl, hg1, cc⟩ := rd_at ((HR3.out w3 (Below.refl _ _)).rw_ ⟨a1, k1, [[104]]⟩ (by simp)) (k := 0) (by simp)
    unfold hdT at ca cb
    simp only [List.getElem_cons_zero, List.getElem_cons_succ, List.length_cons, List.length_nil, Nat.zero_add, Nat.add_zero] at ca cb cc
    unfold encStr at cc
    clear hg hg' hg1
    go_wp2_with fail
    have hwe : ∀ e ∈ wkE, WF e.1 ∧ WF e.2 := by unfold WF maxLen; decide
    have hwf : ∀ x ∈ [[102]], WF x := by unfold WF maxLen; decide
    refine (reach_any (w3.alloc (.cells #[.string ⟨#[102]⟩] 9)) (some ⟨w.heap.size, 0, none⟩) (some ⟨w3.heap.size, 0, none⟩) 3 1 wkE [[102]] (HE3.out _ ((Fr.refl [] w3).alloc _).all) (rd_cells w3 9 [[102]]) (by decide) (by decide) hwe hwf).mono ?_
    rintro e w4 ⟨A4, c4, R, rfl, h4, b4, p4, s4⟩
    obtain rfl := wk_reach s4 p4
    have H4 := Lib.hid h4
    have B4 := Lib.hid ((((Fr.refl [] w3).alloc (.cells #[.string ⟨#[102]⟩] 9)).all).trans (b4.mono (by simp)))
    clear h4 b4 p4 s4 hwe hwf HR3 HE3
    go_wp2_with fail
    refine (inn.same_any _ A4 _ _ _ [[102], [103], [104]] (H4.out.below ((Fr.refl [] w4).alloc _).all) (rd_cells w4 9 [[102], [103], [104]]) (by decide)).mono ?_
    rintro e w5 ⟨rfl, b5⟩
    have B5 := Lib.hid (B4.out.trans ((((Fr.refl [] w4).alloc (.cells #[.string ⟨#[102]⟩, .string ⟨#[103]⟩, .string ⟨#[104]⟩] 9)).all.trans (b5.mono (by simp))).mono B4.out.size))
    clear H4 b5 B4
    go_wp2_with fail
    have hs : ∀ f ∈ wkMF w2.heap.size (w2.heap.size + 1), f.f.locs.length ≤ 1000000 := fun f hf => by
      unfold wkMF at hf
      simp only [List.mem_cons, List.not_mem_nil, or_false] at hf
      rcases hf with rfl | rfl
      · exact show (2 : Nat) ≤ 1000000 by decide
      · exact show (1 : Nat) ≤ 1000000 by decide
    have K1 := Lib.hid (fun W (hb : Below w3.heap.size w3 W) => alias_any W (some ⟨w2.heap.size + 1 + 1, 0, none⟩) 2 _ wkP wkQ (HX3.out W hb) hs)
    have K2 := Lib.hid (fun W (hb : Below w3.heap.size w3 W) => callees_any W (some ⟨w2.heap.size + 1 + 1, 0, none⟩) 2 _ wkP (HX3.out W hb) hs (HT.out W (HB3.out.trans (hb.mono HB3.out.size))))
    have K3 := Lib.hid (fun W (hb : Below w3.heap.size w3 W) => holders_any W (some ⟨w2.heap.size + 1 + 1, 0, none⟩) 2 _ wkX (HX3.out W hb) hs (show (2 : Nat) ≤ 1000000 by decide))
    rw [wk_facs] at K1 K2 K3
    rw [wk_alias] at K1
    rw [wk_callees] at K2
    rw [wk_holders] at K3
    unfold BP at K1
    unfold LP at K2 K3
    clear hs HX3 HT
    refine (K1.out w5 B5.out).mono ?_
    rintro e w6 ⟨rfl, b6⟩
    have B6 := Lib.hid (B5.out.trans (b6.mono B5.out.size))
    clear b6 B5 K1
    go_wp2_with fail
    refine (K2.out w6 B6.out).mono ?_
    rintro e w7 ⟨A7, c7, rfl, h7, b7⟩
    have B7 := Lib.hid (B6.out.trans (b7.mono B6.out.size))
    have H7 := Lib.hid h7
    clear h7 b7 B6 K2
    go_wp2_with fail
    refine (inn.same_any _ A7 _ _ _ [[103]] (H7.out.below ((Fr.refl [] w7).alloc _).all) (rd_cells w7 9 [[103]]) (by decide)).mono ?_
    rintro e w8 ⟨rfl, b8⟩
    have B8 := Lib.hid (B7.out.trans ((((Fr.refl [] w7).alloc (.cells #[.string ⟨#[103]⟩] 9)).all.trans (b8.mono (by simp))).mono B7.out.size))
    clear H7 b8 B7
    go_wp2_with fail
    refine (K3.out w8 B8.out).mono ?_
    rintro e w9 ⟨A9, c9, rfl, h9, b9⟩
    have B9 := Lib.hid (B8.out.trans (b9.mono B8.out.size))
    have H9 := Lib.hid h9
    clear h9 b9 B8 K3
    go_wp2_with fail
    refine (inn.same_any _ A9 _ _ _ [wkP, wkQ] (H9.out.below ((Fr.refl [] w9).alloc _).all) (rd_cells w9 9 [wkP, wkQ]) (by decide)).mono ?_
    rintro e w10 ⟨rfl, b10⟩
    have B10 := Lib.hid (B9.out.trans ((((Fr.refl [] w9).alloc (.cells #[.string ⟨#[102, 46, 112]⟩, .string ⟨#[102, 46, 113]⟩] 9)).all.trans (b10.mono (by simp))).mono B9.out.size))
    clear H9 b10 B9
    go_wp2_with fail
    go_ret
    exact ⟨rfl, HB3.out.trans (B10.out.mono HB3.out.size)⟩
  · simp at m2
end Go.Proofs.YtohdcmmkbblhkaaGreatDoor.qy
