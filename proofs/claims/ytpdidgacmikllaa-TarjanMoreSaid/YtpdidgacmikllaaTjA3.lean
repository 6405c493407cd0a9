/-
  tarjan: whether anything leads round: the walks.
-/
import Derived.Test.YtpdidgacmikllaaTjA2
import Derived.Test.YtpdidgacmikllaaTj7
namespace Go.Proofs.Ytpdidgacmikllaa.tj
open Go.RowKit Go.Proofs.Ytpdidgacmikllaa.mem

def G.rnd (g : G) : Bool := (g.E.any fun e => e.1 == e.2) || decide (g.parts.length < g.n)

theorem Parted2.len_eq {g : G} {T : TS} (h : Parted2 g T) (hg : g.ok) : T.parts.length = g.parts.length := by
  have hp := g.parts_parted hg
  have hnd : T.parts.Nodup := by
    rw [List.nodup_iff_pairwise_ne]
    rw [List.pairwise_iff_getElem]
    intro i j hi hj hij e
    have := h.one i j (T.parts[j]) (by rw [List.getElem?_eq_getElem hi, e]) (List.getElem?_eq_getElem hj)
    omega
  have h1 := nodup_len hnd (m := g.parts) (fun p hp2 => by
    obtain ⟨i, hi, e⟩ := h.cls p hp2
    exact (hp.all p).2 ⟨i, hi, e⟩)
  have h2 := nodup_len hp.nd (m := T.parts) (fun p hp2 => by
    obtain ⟨i, hi, e⟩ := (hp.all p).1 hp2
    obtain ⟨k, _, hk⟩ := h.idx i hi
    rw [e]
    exact List.mem_of_getElem? hk)
  omega

theorem sum_ge : ∀ (L : List (List Nat)), (∀ p ∈ L, p ≠ []) → L.length ≤ L.flatten.length ∧ (L.length < L.flatten.length ↔ ∃ p ∈ L, 1 < p.length)
  | [], _ => by simp
  | p :: r, h => by
    obtain ⟨h1, h2⟩ := sum_ge r (fun q hq => h q (List.mem_cons_of_mem _ hq))
    have hp : 0 < p.length := List.length_pos_iff.2 (h p (by simp))
    rw [List.length_cons, List.flatten_cons, List.length_append]
    refine ⟨by omega, ?_⟩
    simp only [List.mem_cons, exists_eq_or_imp]
    rw [← h2]
    omega

theorem G.rnd_iff (g : G) (hg : g.ok) : g.parts.length < g.n ↔ ∃ p ∈ g.parts, 1 < p.length := by
  have hp := g.parts_parted hg
  rw [← (sum_ge g.parts hp.ne).2, hp.len]

theorem gof_self {n : Int} {l : List (Int × Int)} : ((gof n l).E.any fun e => e.1 == e.2) = l.any fun e => inG n e.1 && e.1 == e.2 := by
  rw [Bool.eq_iff_iff, List.any_eq_true, List.any_eq_true]
  constructor
  · rintro ⟨⟨a, b⟩, h, e⟩
    have e : a = b := by simpa using e
    subst e
    obtain ⟨h1, _, h3⟩ := gof_mem.1 h
    exact ⟨_, h3, by simp [inG]; omega⟩
  · rintro ⟨⟨x, y⟩, h, e⟩
    simp only [Bool.and_eq_true, beq_iff_eq, inG, decide_eq_true_eq] at e
    obtain ⟨⟨e1, e2⟩, rfl⟩ := e
    refine ⟨(x.toNat, x.toNat), gof_mem.2 ⟨by omega, by omega, ?_⟩, by simp⟩
    rw [Int.toNat_of_nonneg e1]
    exact h

theorem out_self (g : G) (hg : g.ok) : (g.E.any fun e => e.1 == e.2) = true ↔ ∃ m, m < g.n ∧ m ∈ g.out m := by
  rw [List.any_eq_true]
  constructor
  · rintro ⟨⟨a, b⟩, h, e⟩
    have e : a = b := by simpa using e
    subst e
    exact ⟨a, (hg _ h).1, g.mem_out.2 h⟩
  · rintro ⟨m, _, h⟩
    exact ⟨_, g.mem_out.1 h, by simp⟩

def IxPost (l : List Nat) (x : Nat) (w : World) (e : Ending) (W : World) : Prop := w = W ∧ ∃ k : Int, e = .returned (.int .i64 k) ∧ (0 ≤ k ↔ x ∈ l)

set_option maxRecDepth 100000 in
theorem index_any (A : Option Addr) (c : Nat) (l : List Nat) (x : Nat) (w : World) (h : Rd w A (natI l)) (hl : l.length ≤ 1000) : Calls Try.prog 34 #[.slice A l.length c, .int .i64 (x : Nat)] w (IxPost l x w) := by
  obtain ⟨n, hn⟩ : ∃ n, Hid (l.length = n) := ⟨_, Lib.hid rfl⟩
  have hl : n ≤ 1000 := by rw [← hn.out]; exact hl
  rw [hn.out]
  have H := Lib.hid h
  clear h
  go_enter Try.func34, Try.ntmps34
  go_wp2_with fail
  go_loop [8] (fun s => ∃ k : Nat, k ≤ n ∧ s = .int .i64 k ∧ Hid (x ∉ l.take k)) (fun s => n - (intOf s).toNat)
  case atStart => exact ⟨0, by omega, rfl, Lib.hid (by simp)⟩
  case round =>
    obtain ⟨k, hk, rfl, hx⟩ := hrel
    by_cases hkn : k < n
    · have d1 : decide ((k : Int) < (n : Int)) = true := decide_eq_true (by omega)
      have hkI : (k : Int) < (n : Int) := by omega
      have hkl : k < l.length := by rw [hn.out]; exact hkn
      obtain ⟨g, o, rfl, _, hc⟩ := rd_cells H.out (by omega)
      have ck := hc k hkl
      have hts := Lib.hid (List.take_succ_eq_append_getElem hkl)
      have hmem := Lib.hid (List.getElem_mem hkl)
      clear hc
      generalize l[k] = y at *
      clear hkl
      by_cases hxy : x = y
      · obtain rfl : x = y := hxy
        have d2 : ((x : Int) == (x : Int)) = true := by simp
        have fin : Hid (IxPost l x w (.returned (.int .i64 (k : Int))) w) := Lib.hid ⟨rfl, _, rfl, ⟨fun _ => hmem.out, fun _ => by omega⟩⟩
        clear hx hts hmem
        go_wp2_with fail
        go_ret
        exact fin.out
      · have d2 : ((x : Int) == (y : Int)) = false := by simp; omega
        have hx2 : Hid (x ∉ l.take (k + 1)) := Lib.hid (by rw [hts.out]; simp; exact ⟨hx.out, hxy⟩)
        clear hx hts hmem
        go_wp2_with fail
        go_round
        case rel => exact ⟨k + 1, by omega, by go_num, hx2⟩
        case measure => simp [intOf]; omega
    · obtain rfl : k = n := by omega
      have d1 : decide ((k : Int) < (k : Int)) = false := decide_eq_false (by omega)
      have fin : Hid (IxPost l x w (.returned (.int .i64 (-1))) w) := Lib.hid ⟨rfl, _, rfl, ⟨fun h => by omega, fun h => by
        have := hx.out
        rw [List.take_of_length_le (by rw [hn.out]; exact Nat.le_refl _)] at this
        exact absurd h this⟩⟩
      clear hx
      go_wp2_with fail
      go_ret
      exact fin.out

set_option maxRecDepth 100000 in
theorem contains_any (A : Option Addr) (c : Nat) (l : List Nat) (x : Nat) (w : World) (h : Rd w A (natI l)) (hl : l.length ≤ 1000) : Calls Try.prog 25 #[.slice A l.length c, .int .i64 (x : Nat)] w fun e w' => e = .returned (.bool (decide (x ∈ l))) ∧ w = w' := by
  have K := Lib.hid (index_any A c l x w h hl)
  obtain ⟨n, hn⟩ : ∃ n, Hid (l.length = n) := ⟨_, Lib.hid rfl⟩
  rw [hn.out] at K ⊢
  clear h hl
  go_enter Try.func25, Try.ntmps25
  go_wp2_with fail
  refine K.out.mono ?_
  rintro e w1 ⟨rfl, k, rfl, hk⟩
  have hd := Lib.hid (show decide (0 ≤ k) = decide (x ∈ l) by rw [decide_eq_decide]; exact hk)
  clear hk K
  go_wp2_with fail
  go_ret
  exact ⟨congrArg (fun b => Ending.returned (.bool b)) hd.out, rfl⟩

set_option maxRecDepth 100000 in
theorem round_big (n : Int) (hn : 20000 < n) (v : Value) (w : World) : Calls Try.prog 13 #[.int .i64 n, v] w (SaPost false w) := by
  have K := Lib.hid (outs_big n hn v w)
  go_enter Try.func13, Try.ntmps13
  go_wp2_with fail
  refine K.out.mono ?_
  rintro e w1 ⟨rfl, rfl⟩
  go_wp2_with fail
  go_ret
  exact ⟨rfl, Below.refl _ _⟩

set_option maxRecDepth 100000 in
theorem round_any (n : Int) (hn : n ≤ 100) (A : Option Addr) (cap : Nat) (l : List (Int × Int)) (hl : l.length ≤ 1000) (w : World) (h : Eds w A l) :
    Calls Try.prog 13 #[.int .i64 n, .slice A l.length cap] w (SaPost (gof n l).rnd w) := by
  have KO := Lib.hid (outs_any n hn A cap l hl w h)
  obtain ⟨m, hm⟩ : ∃ m, Hid ((gof n l).n = m) := ⟨_, Lib.hid rfl⟩
  have hm2 : Hid (n.toNat = m) := Lib.hid hm.out
  have hgn : (gof n l).n ≤ 100 := by show n.toNat ≤ 100; omega
  have hgE : (gof n l).E.length ≤ 1000 := Nat.le_trans (gof_len n l) hl
  have hgo : ∀ u, ((gof n l).out u).length ≤ 1000 := fun u => Nat.le_trans (G.out_le _ u) hgE
  have hmb : m ≤ 100 := by rw [← hm.out]; exact hgn
  have HP := Lib.hid (And.intro hgn (And.intro (gof_ok n l) hgo))
  clear h hgn hgE hgo
  go_enter Try.func13, Try.ntmps13
  go_wp2_with fail
  refine KO.out.mono ?_
  rintro e w1 ⟨o, rows, he, h1⟩
  rw [hm2.out] at he
  subst he
  have HOM := Lib.hid h1.om
  have HB := Lib.hid h1.on
  clear h1 KO
  generalize gof n l = g at *
  go_wp2_with fail
  go_loopw [21] (fun s wr => ∃ k : Nat, k ≤ m ∧ s = .int .i64 k ∧ w1 = wr ∧ Hid (∀ q, q < k → q ∉ g.out q)) (fun s _ => m - (intOf s).toNat)
  case atStart => exact ⟨0, by omega, rfl, rfl, Lib.hid (fun q hq => by omega)⟩
  case round =>
    obtain ⟨k, hk, rfl, rfl, hno⟩ := hrel
    by_cases hkm : k < m
    · have d1 : decide ((k : Int) < (m : Int)) = true := decide_eq_true (by omega)
      have hkI : (k : Int) < (m : Int) := by omega
      have hkg : k < g.n := by rw [hm.out]; exact hkm
      obtain ⟨Ao, co, ko, hro, _⟩ := HOM.out.row k hkg
      have KC := contains_any Ao co (g.out k) k w1 hro (HP.out.2.2 k)
      obtain ⟨q, hq⟩ : ∃ q, Hid ((g.out k).length = q) := ⟨_, Lib.hid rfl⟩
      rw [hq.out] at ko KC
      by_cases hkk : k ∈ g.out k
      · rw [decide_eq_true hkk] at KC
        have KC := Lib.hid KC
        have fin : Hid (SaPost g.rnd w (.returned (.bool true)) w1) := Lib.hid ⟨by
          have := (out_self g HP.out.2.1).2 ⟨k, hkg, hkk⟩
          unfold G.rnd
          rw [this]; rfl, HB.out⟩
        clear hro hkk hkg
        go_wp2_with fail
        refine KC.out.mono ?_
        rintro e w3 ⟨rfl, rfl⟩
        clear KC
        go_wp2_with fail
        go_ret
        exact fin.out
      · rw [decide_eq_false hkk] at KC
        have KC := Lib.hid KC
        have hno2 : Hid (∀ q, q < k + 1 → q ∉ g.out q) := Lib.hid (fun q hq => by
          by_cases e : q = k
          · subst e; exact hkk
          · exact hno.out q (by omega))
        clear hro hkk hkg hno
        go_wp2_with fail
        refine KC.out.mono ?_
        rintro e w3 ⟨rfl, rfl⟩
        clear KC
        go_wp2_with fail
        go_roundw
        case rel => exact ⟨k + 1, by omega, by go_num, trivial, hno2⟩
        case measure => simp [intOf]; omega
    · obtain rfl : k = m := by omega
      have d1 : decide ((k : Int) < (k : Int)) = false := decide_eq_false (by omega)
      have hself : Hid ((g.E.any fun e => e.1 == e.2) = false) := Lib.hid (by
        rw [Bool.eq_false_iff]
        intro h
        obtain ⟨q, h1, h2⟩ := (out_self g HP.out.2.1).1 h
        exact hno.out q (by rw [hm.out] at h1; exact h1) h2)
      have KD := parted_any g HP.out.2.1 HP.out.1 HP.out.2.2 w1 o HOM.out
      rw [hm.out] at KD
      have KD := Lib.hid KD
      clear hno
      go_wp2_with fail
      refine KD.out.mono ?_
      rintro e w2 ⟨T, Aq, cq, tp, rws, he, p2, b2⟩
      rw [hm.out] at he
      obtain ⟨K, hK⟩ : ∃ K, Hid (T.parts.length = K) := ⟨_, Lib.hid rfl⟩
      rw [hK.out] at he
      subst he
      have fin : Hid (∀ b, b = decide (K < k) → SaPost g.rnd w (.returned (.bool b)) w2) := Lib.hid (fun b hb => ⟨by
        subst hb
        unfold G.rnd
        rw [hself.out, ← p2.pd.len_eq HP.out.2.1, hK.out, hm.out]; rfl, HB.out.trans (b2.mono HB.out.size)⟩)
      clear p2 b2 KD
      by_cases hKk : K < k
      · have d2 : decide ((K : Int) < (k : Int)) = true := decide_eq_true (by omega)
        have d3 : decide (K < k) = true := decide_eq_true hKk
        have fin := Lib.hid (fin.out true d3.symm)
        go_wp2_with fail
        go_ret
        exact fin.out
      · have d2 : decide ((K : Int) < (k : Int)) = false := decide_eq_false (by omega)
        have d3 : decide (K < k) = false := decide_eq_false hKk
        have fin := Lib.hid (fin.out false d3.symm)
        go_wp2_with fail
        go_ret
        exact fin.out
end Go.Proofs.Ytpdidgacmikllaa.tj
