/-
  agenda: each once, whatever is picked.
-/
import Derived.Test.YtenohenkedofkaaAg7
namespace Go.Proofs.Ytenohenkedofkaa.ag
open Go.RowKit Go.Proofs.Ytenohenkedofkaa.mem

theorem bytes_beq_no {a b : ByteArray} (h : a ≠ b) : (a.toList == b.toList) = false := by
  rw [ByteArray.toList_eq, ByteArray.toList_eq, beq_eq_false_iff_ne]
  exact fun e => h (ags.bytes_eq e)

theorem take_mem_s (xs : List ByteArray) (x : ByteArray) (k : Nat) (hk : k < xs.length) : x ∈ xs.take (k + 1) ↔ x ∈ xs.take k ∨ xs[k] = x := by
  rw [List.take_succ_eq_append_getElem hk, List.mem_append, List.mem_singleton]
  exact or_congr Iff.rfl eq_comm

theorem in_any (w : World) (A : Option Addr) (cap : Nat) (xs : List ByteArray) (x : ByteArray) (h : Rd w A (ags.vals xs)) (hm : xs.length ≤ 1000000) :
    Calls Try.prog 37 #[.slice A xs.length cap, .string x] w fun e w' => e = .returned (.bool (decide (x ∈ xs))) ∧ w = w' := by
  rcases Nat.eq_zero_or_pos xs.length with h0 | h0
  · obtain rfl := List.eq_nil_of_length_eq_zero h0
    clear h hm h0
    go_enter Try.func37, Try.ntmps37
    go_wp2
    go_loop [5] (fun i => i = .int .i64 0) (fun _ => 0)
    case atStart => exact rfl
    case round =>
      subst hrel
      go_wp2
      go_ret
      exact ⟨by simp, rfl⟩
  · obtain ⟨g, off, rfl, hlt, hc⟩ := h (by rw [ags.vals_len]; exact h0)
    have Hc : Hid (∀ j (hj : j < xs.length), w.cell? ⟨g, off + j, none⟩ = some (.string xs[j])) := Lib.hid (fun j hj => by rw [hc j (by rw [ags.vals_len]; exact hj)]; simp [ags.vals])
    clear h hc
    go_enter Try.func37, Try.ntmps37
    go_wp2
    go_loop [5] (fun i => ∃ k : Nat, k ≤ xs.length ∧ i = .int .i64 k ∧ Hid (x ∉ xs.take k)) (fun i => xs.length - (intOf i).toNat)
    case atStart => exact ⟨0, by omega, rfl, Lib.hid (by simp)⟩
    case round =>
      obtain ⟨k, hk, rfl, hn⟩ := hrel
      by_cases hkl : k < xs.length
      · have hcell := Hc.out k hkl
        have Hmem := Lib.hid (take_mem_s xs x k hkl)
        have Hin : Hid (xs[k] ∈ xs) := Lib.hid (List.getElem_mem hkl)
        generalize hy : xs[k] = y at *
        clear hy
        by_cases e : y = x
        · subst e
          have hb : (y.toList == y.toList) = true := by simp
          go_wp2
          go_ret
          exact ⟨by rw [decide_eq_true Hin.out]; rfl, rfl⟩
        · have hb := bytes_beq_no e
          have He := Lib.hid e
          clear e
          go_wp2
          go_round
          case rel => exact ⟨k + 1, by omega, by go_num, Lib.hid (fun hm => by rcases Hmem.out.1 hm with h | h; exact hn.out h; exact He.out h)⟩
          case measure => simp [intOf]; omega
      · obtain rfl : k = xs.length := by omega
        have Hn : Hid (x ∉ xs) := Lib.hid (by have := hn.out; rwa [List.take_length] at this)
        clear hn hkl
        go_wp2
        go_ret
        exact ⟨by rw [decide_eq_false Hn.out]; rfl, rfl⟩

/-- two agendas of texts, and a list -/
def Tri (B : Nat) (w0 w : World) (ba bb N : Nat) (xa xb : List ByteArray) (Am : Option Addr) (capm : Nat) (ms : List ByteArray) : Prop :=
  ∃ A1 c1 m1 A2 c2 m2, ags.Ag w ba A1 c1 m1 N xa ∧ ags.Ag w bb A2 c2 m2 N xb ∧ Seg w 9 Am capm (ags.vals ms) ∧ Below B w0 w ∧ B ≤ w.heap.size ∧ (∀ g ∈ ags.foot ba A1 m1, B ≤ g ∧ g ∉ ags.foot bb A2 m2 ∧ g ∉ blk Am) ∧ (∀ g ∈ ags.foot bb A2 m2, B ≤ g ∧ g ∉ blk Am) ∧ ∀ g ∈ blk Am, B ≤ g

def putS (xs : List ByteArray) (x : ByteArray) : List ByteArray := if x ∈ xs then xs else xs ++ [x]

section
variable {B : Nat} {w0 w : World} {ba bb N : Nat} {xa xb ms : List ByteArray} {Am : Option Addr} {capm : Nat}

theorem Tri.on (h : Tri B w0 w ba bb N xa xb Am capm ms) : Below B w0 w := by obtain ⟨_, _, _, _, _, _, _, _, _, h, _⟩ := h; exact h
theorem Tri.size (h : Tri B w0 w ba bb N xa xb Am capm ms) : B ≤ w.heap.size := by obtain ⟨_, _, _, _, _, _, _, _, _, _, h, _⟩ := h; exact h
theorem Tri.seg (h : Tri B w0 w ba bb N xa xb Am capm ms) : Seg w 9 Am capm (ags.vals ms) := by obtain ⟨_, _, _, _, _, _, _, _, h, _⟩ := h; exact h
theorem Tri.len (h : Tri B w0 w ba bb N xa xb Am capm ms) : xa.length ≤ N := by obtain ⟨_, _, _, _, _, _, h, _⟩ := h; exact h.len
theorem Tri.nod (h : Tri B w0 w ba bb N xa xb Am capm ms) : xa.Nodup := by obtain ⟨_, _, _, _, _, _, h, _⟩ := h; exact h.nod
theorem Tri.mono (h : Tri B w0 w ba bb N xa xb Am capm ms) {N' : Nat} (hN : N ≤ N') : Tri B w0 w ba bb N' xa xb Am capm ms := by
  obtain ⟨A1, c1, m1, A2, c2, m2, ha, hb, r⟩ := h
  exact ⟨A1, c1, m1, A2, c2, m2, ⟨ha.box, ha.seg, ha.set.mono hN, ha.nod, ha.wf, Nat.le_trans ha.len hN⟩, ⟨hb.box, hb.seg, hb.set.mono hN, hb.nod, hb.wf, Nat.le_trans hb.len hN⟩, r⟩

theorem Tri.below {w' : World} (h : Tri B w0 w ba bb N xa xb Am capm ms) (f : Below w.heap.size w w') : Tri B w0 w' ba bb N xa xb Am capm ms := by
  obtain ⟨A1, c1, m1, A2, c2, m2, ha, hb, hs, ho, hB, r⟩ := h
  have f0 := Fr.of_below f []
  exact ⟨A1, c1, m1, A2, c2, m2, ha.kept f0 (by simp), hb.kept f0 (by simp), hs.kept f0 (by simp), on_below ho f hB, Nat.le_trans hB f.size, r⟩

theorem tri_put_a (h : Tri B w0 w ba bb N xa xb Am capm ms) (x : ByteArray) (hx : x.size ≤ maxLen) (hN : N < 1000000) :
    Calls Try.prog 35 #[.pointer (some ⟨ba, 0, none⟩), .string x] w fun e w' => e = .returned (.bool (decide (x ∉ xa))) ∧ Tri B w0 w' ba bb (N + 1) (putS xa x) xb Am capm ms := by
  unfold putS
  by_cases hin : x ∈ xa
  · rw [if_pos hin, decide_eq_false (fun h => h hin)]
    obtain ⟨A1, c1, m1, A2, c2, m2, ha, _⟩ := id h
    refine (ags.put_no w ba A1 c1 m1 N xa x ha hx hin).mono ?_
    rintro e w' ⟨rfl, f⟩
    exact ⟨rfl, (h.below f).mono (by omega)⟩
  · rw [if_neg hin, decide_eq_true hin]
    obtain ⟨A1, c1, m1, A2, c2, m2, ha, hb, hs, ho, hB, h1, h2, h3⟩ := h
    refine (ags.put_any w ba A1 c1 m1 N xa x ha hx hin hN).mono ?_
    rintro e w' ⟨rfl, f, A', c', m', ha', hf'⟩
    have hb' := hb.kept f (fun g hg hg' => (h1 g hg').2.1 hg)
    refine ⟨rfl, A', c', m', A2, c2, m2, ha', ⟨hb'.box, hb'.seg, hb'.set.mono (by omega), hb'.nod, hb'.wf, Nat.le_trans hb'.len (by omega)⟩, hs.kept f (fun g hg hg' => (h1 g hg').2.2 hg), on_fr ho f (fun g hg => (h1 g hg).1) hB, Nat.le_trans hB f.size, fun g hg => ?_, h2, h3⟩
    rcases hf' g hg with h | h
    · exact h1 g h
    · exact ⟨by omega, fun hg' => by have := hb.lt g hg'; omega, fun hg' => by have := hs.lt g hg'; omega⟩

theorem tri_put_b (h : Tri B w0 w ba bb N xa xb Am capm ms) (x : ByteArray) (hx : x.size ≤ maxLen) (hN : N < 1000000) :
    Calls Try.prog 35 #[.pointer (some ⟨bb, 0, none⟩), .string x] w fun e w' => e = .returned (.bool (decide (x ∉ xb))) ∧ Tri B w0 w' ba bb (N + 1) xa (putS xb x) Am capm ms := by
  unfold putS
  by_cases hin : x ∈ xb
  · rw [if_pos hin, decide_eq_false (fun h => h hin)]
    obtain ⟨A1, c1, m1, A2, c2, m2, ha, hb, _⟩ := id h
    refine (ags.put_no w bb A2 c2 m2 N xb x hb hx hin).mono ?_
    rintro e w' ⟨rfl, f⟩
    exact ⟨rfl, (h.below f).mono (by omega)⟩
  · rw [if_neg hin, decide_eq_true hin]
    obtain ⟨A1, c1, m1, A2, c2, m2, ha, hb, hs, ho, hB, h1, h2, h3⟩ := h
    refine (ags.put_any w bb A2 c2 m2 N xb x hb hx hin hN).mono ?_
    rintro e w' ⟨rfl, f, A', c', m', hb', hf'⟩
    have ha' := ha.kept f (fun g hg hg' => (h1 g hg).2.1 hg')
    refine ⟨rfl, A1, c1, m1, A', c', m', ⟨ha'.box, ha'.seg, ha'.set.mono (by omega), ha'.nod, ha'.wf, Nat.le_trans ha'.len (by omega)⟩, hb', hs.kept f (fun g hg hg' => (h2 g hg').2 hg), on_fr ho f (fun g hg => (h2 g hg).1) hB, Nat.le_trans hB f.size, fun g hg => ⟨(h1 g hg).1, fun hg' => ?_, (h1 g hg).2.2⟩, fun g hg => ?_, h3⟩
    · rcases hf' g hg' with h | h
      · exact (h1 g hg).2.1 h
      · have := ha.lt g hg; omega
    · rcases hf' g hg with h | h
      · exact h2 g h
      · exact ⟨by omega, fun hg' => by have := hs.lt g hg'; omega⟩

/-- another list in the third's place -/
theorem Tri.other {w' : World} {ns : List ByteArray} {A' : Option Addr} {cap' : Nat} (h : Tri B w0 w ba bb N xa xb Am capm ms) (f : Fr (blk Am) w w') (hs' : Seg w' 9 A' cap' (ags.vals ns)) (hA : ∀ g ∈ blk A', g ∈ blk Am ∨ w.heap.size ≤ g) : Tri B w0 w' ba bb N xa xb A' cap' ns := by
  obtain ⟨A1, c1, m1, A2, c2, m2, ha, hb, hs, ho, hB, h1, h2, h3⟩ := h
  refine ⟨A1, c1, m1, A2, c2, m2, ha.kept f (fun g hg => (h1 g hg).2.2), hb.kept f (fun g hg => (h2 g hg).2), hs', on_fr ho f h3 hB, Nat.le_trans hB f.size, fun g hg => ⟨(h1 g hg).1, (h1 g hg).2.1, fun hg' => ?_⟩, fun g hg => ⟨(h2 g hg).1, fun hg' => ?_⟩, fun g hg => ?_⟩
  · rcases hA g hg' with h | h
    · exact (h1 g hg).2.2 h
    · have := ha.lt g hg; omega
  · rcases hA g hg' with h | h
    · exact (h2 g hg).2 h
    · have := hb.lt g hg; omega
  · rcases hA g hg with h | h
    · exact h3 g h
    · omega

/-- .. and numbers that pick -/
def Quad (B : Nat) (w0 w : World) (ba bb bp N : Nat) (xa xb : List ByteArray) (Am : Option Addr) (capm : Nat) (ms : List ByteArray) (ps : List Int) : Prop :=
  ∃ A1 c1 m1 A2 c2 m2 P cp, ags.Ag w ba A1 c1 m1 N xa ∧ ags.Ag w bb A2 c2 m2 N xb ∧ Seg w 9 Am capm (ags.vals ms) ∧ Pk w bp P cp ps ∧ Below B w0 w ∧ B ≤ w.heap.size ∧ (∀ g ∈ ags.foot ba A1 m1, B ≤ g ∧ g ∉ ags.foot bb A2 m2 ∧ g ∉ blk Am ∧ g ∉ bp :: blk P) ∧ (∀ g ∈ ags.foot bb A2 m2, B ≤ g ∧ g ∉ blk Am ∧ g ∉ bp :: blk P) ∧ (∀ g ∈ blk Am, B ≤ g ∧ g ∉ bp :: blk P) ∧ ∀ g ∈ bp :: blk P, B ≤ g

variable {bp : Nat} {ps : List Int}

theorem Quad.on (h : Quad B w0 w ba bb bp N xa xb Am capm ms ps) : Below B w0 w := by obtain ⟨_, _, _, _, _, _, _, _, _, _, _, _, h, _⟩ := h; exact h
theorem Quad.size (h : Quad B w0 w ba bb bp N xa xb Am capm ms ps) : B ≤ w.heap.size := by obtain ⟨_, _, _, _, _, _, _, _, _, _, _, _, _, h, _⟩ := h; exact h
theorem Quad.seg (h : Quad B w0 w ba bb bp N xa xb Am capm ms ps) : Seg w 9 Am capm (ags.vals ms) := by obtain ⟨_, _, _, _, _, _, _, _, _, _, h, _⟩ := h; exact h
theorem Quad.nod (h : Quad B w0 w ba bb bp N xa xb Am capm ms ps) : xa.Nodup := by obtain ⟨_, _, _, _, _, _, _, _, h, _⟩ := h; exact h.nod
theorem Quad.wf (h : Quad B w0 w ba bb bp N xa xb Am capm ms ps) : ∀ x ∈ xa, x.size ≤ maxLen := by obtain ⟨_, _, _, _, _, _, _, _, h, _⟩ := h; exact h.wf

theorem Quad.below {w' : World} (h : Quad B w0 w ba bb bp N xa xb Am capm ms ps) (f : Below w.heap.size w w') : Quad B w0 w' ba bb bp N xa xb Am capm ms ps := by
  obtain ⟨A1, c1, m1, A2, c2, m2, P, cp, ha, hb, hs, hp, ho, hB, r⟩ := h
  have f0 := Fr.of_below f []
  exact ⟨A1, c1, m1, A2, c2, m2, P, cp, ha.kept f0 (by simp), hb.kept f0 (by simp), hs.kept f0 (by simp), hp.kept f0 (by simp), on_below ho f hB, Nat.le_trans hB f.size, r⟩

theorem quad_of {w' : World} {P : Option Addr} {cp : Nat} (h : Tri B w0 w ba bb N xa xb Am capm ms) (f : Below w.heap.size w w') (hp : Pk w' bp P cp ps) (hn : ∀ g ∈ bp :: blk P, w.heap.size ≤ g) : Quad B w0 w' ba bb bp N xa xb Am capm ms ps := by
  obtain ⟨A1, c1, m1, A2, c2, m2, ha, hb, hs, ho, hB, h1, h2, h3⟩ := h
  have f0 := Fr.of_below f []
  exact ⟨A1, c1, m1, A2, c2, m2, P, cp, ha.kept f0 (by simp), hb.kept f0 (by simp), hs.kept f0 (by simp), hp, on_below ho f hB, Nat.le_trans hB f.size,
    fun g hg => ⟨(h1 g hg).1, (h1 g hg).2.1, (h1 g hg).2.2, fun hg' => by have := ha.lt g hg; have := hn g hg'; omega⟩,
    fun g hg => ⟨(h2 g hg).1, (h2 g hg).2, fun hg' => by have := hb.lt g hg; have := hn g hg'; omega⟩,
    fun g hg => ⟨h3 g hg, fun hg' => by have := hs.lt g hg; have := hn g hg'; omega⟩, fun g hg => Nat.le_trans hB (hn g hg)⟩

theorem quad_next (h : Quad B w0 w ba bb bp N xa xb Am capm ms ps) (hm : ps.length ≤ 9223372036854775807) :
    Calls Try.prog 33 #[.pointer (some ⟨bp, 0, none⟩)] w fun e w' => e = .returned (.int .i64 (ps.headD 0)) ∧ Quad B w0 w' ba bb bp N xa xb Am capm ms ps.tail := by
  obtain ⟨A1, c1, m1, A2, c2, m2, P, cp, ha, hb, hs, hp, ho, hB, h1, h2, h3, h4⟩ := h
  refine (next_any w bp P cp ps hp hm).mono ?_
  rintro e w' ⟨rfl, f, P', cp', hp', hbl⟩
  have hbp : ∀ g, g ∈ [bp] → g ∈ bp :: blk P := fun g hg => by rw [List.mem_singleton] at hg; subst hg; simp
  refine ⟨rfl, A1, c1, m1, A2, c2, m2, P', cp', ha.kept f (fun g hg hg' => (h1 g hg).2.2.2 (hbp g hg')), hb.kept f (fun g hg hg' => (h2 g hg).2.2 (hbp g hg')), hs.kept f (fun g hg hg' => (h3 g hg).2 (hbp g hg')), hp', on_fr ho f (fun g hg => h4 g (hbp g hg)) hB, Nat.le_trans hB f.size, by rw [hbl]; exact h1, by rw [hbl]; exact h2, by rw [hbl]; exact h3, by rw [hbl]; exact h4⟩

def takeSL (xs : List ByteArray) (n : Int) : List ByteArray := if xs.length = 0 then xs else xs.eraseIdx (ags.pickN n xs.length)
def takeSV (xs : List ByteArray) (n : Int) : ByteArray := if xs.length = 0 then ⟨#[]⟩ else xs.getD (ags.pickN n xs.length) ByteArray.empty
def takeSB (xs : List ByteArray) : Bool := decide (0 < xs.length)

theorem quad_take_a (h : Quad B w0 w ba bb bp N xa xb Am capm ms ps) (n : Int) (hN : N < 1000000) :
    Calls Try.prog 36 #[.pointer (some ⟨ba, 0, none⟩), .int .i64 n] w fun e w' => e = .returned (.tuple #[.string (takeSV xa n), .bool (takeSB xa)]) ∧ Quad B w0 w' ba bb bp N (takeSL xa n) xb Am capm ms ps := by
  unfold takeSV takeSB takeSL
  by_cases hz : xa.length = 0
  · rw [if_pos hz, if_pos hz, decide_eq_false (by omega)]
    obtain ⟨A1, c1, m1, _, _, _, _, _, ha, _⟩ := id h
    have hbx := ha.box
    rw [hz] at hbx
    refine (ags.take_none w ba A1 c1 _ n hbx).mono ?_
    rintro e w' ⟨rfl, rfl⟩
    exact ⟨rfl, h⟩
  · rw [if_neg hz, if_neg hz, decide_eq_true (by omega)]
    obtain ⟨A1, c1, m1, A2, c2, m2, P, cp, ha, hb, hs, hp, ho, hB, h1, h2, h3, h4⟩ := h
    refine (ags.take_any w ba A1 c1 m1 N xa n ha (by omega) hN).mono ?_
    rintro e w' ⟨rfl, f, A', c', ha', hbl⟩
    have e1 : ags.foot ba A' m1 = ags.foot ba A1 m1 := by unfold ags.foot; rw [hbl]
    exact ⟨rfl, A', c', m1, A2, c2, m2, P, cp, ha', hb.kept f (fun g hg hg' => (h1 g hg').2.1 hg), hs.kept f (fun g hg hg' => (h1 g hg').2.2.1 hg), hp.kept f (fun g hg hg' => (h1 g hg').2.2.2 hg), on_fr ho f (fun g hg => (h1 g hg).1) hB, Nat.le_trans hB f.size, e1 ▸ h1, h2, h3, h4⟩

theorem quad_take_b (h : Quad B w0 w ba bb bp N xa xb Am capm ms ps) (n : Int) (hN : N < 1000000) :
    Calls Try.prog 36 #[.pointer (some ⟨bb, 0, none⟩), .int .i64 n] w fun e w' => e = .returned (.tuple #[.string (takeSV xb n), .bool (takeSB xb)]) ∧ Quad B w0 w' ba bb bp N xa (takeSL xb n) Am capm ms ps := by
  unfold takeSV takeSB takeSL
  by_cases hz : xb.length = 0
  · rw [if_pos hz, if_pos hz, decide_eq_false (by omega)]
    obtain ⟨_, _, _, A2, c2, m2, _, _, ha, hb, _⟩ := id h
    have hbx := hb.box
    rw [hz] at hbx
    refine (ags.take_none w bb A2 c2 _ n hbx).mono ?_
    rintro e w' ⟨rfl, rfl⟩
    exact ⟨rfl, h⟩
  · rw [if_neg hz, if_neg hz, decide_eq_true (by omega)]
    obtain ⟨A1, c1, m1, A2, c2, m2, P, cp, ha, hb, hs, hp, ho, hB, h1, h2, h3, h4⟩ := h
    refine (ags.take_any w bb A2 c2 m2 N xb n hb (by omega) hN).mono ?_
    rintro e w' ⟨rfl, f, A', c', hb', hbl⟩
    have e1 : ags.foot bb A' m2 = ags.foot bb A2 m2 := by unfold ags.foot; rw [hbl]
    exact ⟨rfl, A1, c1, m1, A', c', m2, P, cp, ha.kept f (fun g hg hg' => (h1 g hg).2.1 hg'), hb', hs.kept f (fun g hg hg' => (h2 g hg').2.1 hg), hp.kept f (fun g hg hg' => (h2 g hg').2.2 hg), on_fr ho f (fun g hg => (h2 g hg).1) hB, Nat.le_trans hB f.size, fun g hg => by rw [e1]; exact h1 g hg, e1 ▸ h2, h3, h4⟩

theorem quad_has (h : Quad B w0 w ba bb bp N xa xb Am capm ms ps) (x : ByteArray) (hx : x.size ≤ maxLen) :
    Calls Try.prog 38 #[.pointer (some ⟨ba, 0, none⟩), .string x] w fun e w' => e = .returned (.bool (decide (x ∈ xa))) ∧ Quad B w0 w' ba bb bp N xa xb Am capm ms ps := by
  obtain ⟨_, _, m1, _, _, _, _, _, ha, _⟩ := id h
  refine (ags.has_any w ba m1 N xa x _ ha.box ha.set hx).mono ?_
  rintro e w' ⟨rfl, f⟩
  exact ⟨rfl, h.below f⟩

theorem quad_len (h : Quad B w0 w ba bb bp N xa xb Am capm ms ps) : Calls Try.prog 39 #[.pointer (some ⟨ba, 0, none⟩)] w fun e w' => e = .returned (.int .i64 xa.length) ∧ w = w' := by
  obtain ⟨A1, c1, m1, _, _, _, _, _, ha, _⟩ := h
  exact ags.len_any w ba A1 c1 xa.length _ ha.box
end
end Go.Proofs.Ytenohenkedofkaa.ag
