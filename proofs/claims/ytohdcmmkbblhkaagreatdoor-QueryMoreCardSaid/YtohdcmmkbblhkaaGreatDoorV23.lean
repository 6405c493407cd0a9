import Derived.Test.YtohdcmmkbblhkaaGreatDoorV16
import Derived.Test.YtohdcmmkbblhkaaGreatDoorUMp
import Derived.Test.YtohdcmmkbblhkaaGreatDoorV21
import Derived.Test.YtohdcmmkbblhkaaGreatDoorURg2
import Derived.Test.YtohdcmmkbblhkaaGreatDoorUPi
import Derived.Deep.RegionHeld3
import Derived.Test.YtohdcmmkbblhkaaGreatDoorV41
import Derived.Test.YtohdcmmkbblhkaaGreatDoorUNm3
import Derived.Test.YtohdcmmkbblhkaaGreatDoorV19
/-
  query: what is reached: the program's, plain and in memory.
-/
set_option linter.all false
namespace Go.Proofs.YtohdcmmkbblhkaaGreatDoor.qy
open Go.RowKit Go.Sort Go.Shelf Go.Maps Go.Proofs.YtohdcmmkbblhkaaGreatDoor.mem Go.Proofs.YtohdcmmkbblhkaaGreatDoor.wd Go.Proofs.YtohdcmmkbblhkaaGreatDoor.mp
open Go.Proofs.YtohdcmmkbblhkaaGreatDoor.inn (rsS mem_rsS)
open Go.Proofs.YtohdcmmkbblhkaaGreatDoor.ins (TM WF)

/-- where calls of one go -/
def tos (l : List Ed) (x : T) : List T := (l.filter fun e => decide (e.1 = x)).map (·.2)
theorem tos_snoc (l : List Ed) (e : Ed) (x : T) : tos (l ++ [e]) x = tos l x ++ (if e.1 = x then [e.2] else []) := by
  unfold tos
  rw [fm_snoc]
  congr 1
  by_cases h : e.1 = x
  · rw [if_pos h, if_pos (by simpa using h)]
  · rw [if_neg h, if_neg (by simpa using h)]
theorem tos_len (l : List Ed) (x : T) : (tos l x).length ≤ l.length := by
  unfold tos
  rw [List.length_map]
  exact List.length_filter_le _ _
theorem mem_tos {l : List Ed} {x y : T} : y ∈ tos l x ↔ (x, y) ∈ l := by
  unfold tos
  simp only [List.mem_map, List.mem_filter, decide_eq_true_eq]
  constructor
  · rintro ⟨⟨a, b⟩, ⟨h, rfl⟩, rfl⟩
    exact h
  · intro h
    exact ⟨(x, y), ⟨h, rfl⟩, rfl⟩

abbrev Hd := T → Option Addr × Nat
/-- the map of rows, in blocks of the call's own -/
structure GR (w W : World) (b N : Nat) (hd : Hd) (l : List Ed) : Prop where
  map : ∃ has, SM Tryz.prog 9 W b N (.slice none 0 0) (fun x => .slice (hd x).1 (tos l x).length (hd x).2) has
  seg : ∀ x, Seg W 9 (hd x).1 (hd x).2 ((tos l x).map encStr)
  ge : ∀ x, ∀ q ∈ blk (hd x).1, w.heap.size ≤ q
  dis : ∀ x y, x ≠ y → ∀ q ∈ blk (hd x).1, q ∉ blk (hd y).1
  on : Below w.heap.size w W
  b : w.heap.size ≤ b

theorem GR.new (w : World) : GR w (w.alloc (.map #[] 0)) w.heap.size 0 (fun _ => (none, 0)) [] :=
  ⟨⟨_, SM.made _ _ w _⟩, fun _ => Seg.nil _ _, fun _ q hq => (by cases hq), fun _ _ _ q hq => (by cases hq), (Below.refl _ w).alloc (Nat.le_refl _) _, Nat.le_refl _⟩
theorem GR.below {w W W' : World} {b N : Nat} {hd : Hd} {l : List Ed} (h : GR w W b N hd l) (hb : Below W.heap.size W W') : GR w W' b N hd l := by
  obtain ⟨has, hm⟩ := h.map
  exact ⟨⟨has, hm.below hb⟩, fun x => (h.seg x).kept (Fr.of_below hb []) (by simp), h.ge, h.dis, h.on.trans (hb.mono h.on.size), h.b⟩
theorem GR.out {w W : World} {b N : Nat} {hd : Hd} {l : List Ed} (h : GR w W b N hd l) (x : T) : b ∉ blk (hd x).1 := fun hq => by
  obtain ⟨has, hm⟩ := h.map
  cases hA : (hd x).1 with
  | none => rw [hA] at hq; cases hq
  | some a =>
    have hs := h.seg x
    rw [hA] at hs hq
    simp only [blk, List.mem_singleton] at hq
    obtain ⟨_, cur, h1, _⟩ := hs.2.2.2 a rfl
    exact hm.ne_cells h1 hq
theorem zero_strs (W : World) : (zeroValue 26).run Tryz.prog W = .ok (.slice none 0 0) W := by kernel_rfl
theorem GR.look {w W : World} {b N : Nat} {hd : Hd} {l : List Ed} (h : GR w W b N hd l) (x : T) (hx : WF x) :
    (Instr.lookup 75 (.map (some b)) (encStr x) false).run Tryz.prog W = .ok (.slice (hd x).1 (tos l x).length (hd x).2) W := by
  obtain ⟨has, hm⟩ := h.map
  exact hm.look (Maps.string_keyed Tryz.underlying9) Tryz.underlying75 (zero_strs W) (ins.key_s hx)

/-- a call more -/
theorem GR.push {w W W2 W' : World} {b N : Nat} {hd : Hd} {l : List Ed} (h : GR w W b N hd l) {x y : T} {A2 : Option Addr} {cap2 : Nat} {o : Obj} (hs : Seg W2 9 A2 cap2 ((tos l x).map encStr ++ [encStr y])) (f : Fr (blk (hd x).1) (W.alloc o) W2) (hb : blk A2 = blk (hd x).1 ∨ blk A2 = [(W.alloc o).heap.size])
    {has : T → Bool} (hm : SM Tryz.prog 9 W' b (N + 1) (.slice none 0 0) (updT (fun x => .slice (hd x).1 (tos l x).length (hd x).2) x (.slice A2 ((tos l x).length + 1) cap2)) has) (hg : W2.grownBy W' (some b)) :
    GR w W' b (N + 1) (fun z => if z = x then (A2, cap2) else hd z) (l ++ [(x, y)]) := by
  have hsz := h.on.size
  have f2 : Fr (blk (hd x).1) W W2 := ((Fr.refl [] W).alloc o).trans f (fun g hg => (by cases hg)) (fun g hg => Or.inl hg)
  have hlt : b < W.heap.size := by obtain ⟨_, hm0⟩ := h.map; exact hm0.lt
  have f3 : Fr (b :: blk (hd x).1) W W' := (f2.mono fun g hg => Or.inl (List.mem_cons_of_mem _ hg)).grown hg fun k e => by cases e; exact Or.inl List.mem_cons_self
  have f4 : Fr [b] W2 W' := (Fr.refl [b] W2).grown hg fun k e => by cases e; exact Or.inl List.mem_cons_self
  have hA2 : ∀ q ∈ blk A2, q ∈ blk (hd x).1 ∨ W.heap.size ≤ q := fun q hq => by
    rcases hb with e | e
    · exact Or.inl (e ▸ hq)
    · rw [e, List.mem_singleton] at hq
      subst hq
      right
      simp
  have hbA : b ∉ blk A2 := fun hq => by
    rcases hA2 b hq with h1 | h1
    · exact h.out x h1
    · omega
  refine ⟨⟨has, ?_⟩, fun z => ?_, fun z q hq => ?_, fun z z2 hz q hq hq2 => ?_, h.on.trans (f3.below (B := w.heap.size) (fun g hg => ?_) h.on.size), h.b⟩
  · have e : (fun z => Value.slice (if z = x then (A2, cap2) else hd z).1 (tos (l ++ [(x, y)]) z).length (if z = x then (A2, cap2) else hd z).2) = updT (fun x => .slice (hd x).1 (tos l x).length (hd x).2) x (.slice A2 ((tos l x).length + 1) cap2) := by
      funext z
      unfold updT
      by_cases hz : z = x
      · subst hz
        rw [if_pos rfl, if_pos rfl, tos_snoc, if_pos rfl, List.length_append]
        rfl
      · rw [if_neg hz, if_neg hz, tos_snoc, if_neg (fun e => hz e.symm), List.append_nil]
    rw [e]
    exact hm
  · rw [tos_snoc]
    by_cases hz : z = x
    · subst hz
      rw [if_pos rfl, if_pos rfl, List.map_append]
      exact hs.kept f4 (fun g hg => by rw [List.mem_singleton]; exact fun e => hbA (e ▸ hg))
    · rw [if_neg hz, if_neg (fun e => hz e.symm), List.append_nil]
      exact (h.seg z).kept f3 (fun g hq1 h1 => by
        rcases List.mem_cons.1 h1 with rfl | h1
        · exact h.out z hq1
        · exact h.dis z x hz g hq1 h1)
  · by_cases hz : z = x
    · rw [if_pos hz] at hq
      rcases hA2 q hq with h1 | h1
      · exact h.ge x q h1
      · omega
    · rw [if_neg hz] at hq
      exact h.ge z q hq
  · by_cases h1 : z = x
    · by_cases h2 : z2 = x
      · exact hz (h1.trans h2.symm)
      · rw [if_pos h1] at hq
        rw [if_neg h2] at hq2
        rcases hA2 q hq with h3 | h3
        · exact h.dis x z2 (fun e => h2 e.symm) q h3 hq2
        · have := (h.seg z2).lt q hq2
          omega
    · rw [if_neg h1] at hq
      by_cases h2 : z2 = x
      · rw [if_pos h2] at hq2
        rcases hA2 q hq2 with h3 | h3
        · exact h.dis z x h1 q hq h3
        · have := (h.seg z).lt q hq
          omega
      · rw [if_neg h2] at hq2
        exact h.dis z z2 hz q hq hq2
  · rcases List.mem_cons.1 hg with rfl | hg
    · exact h.b
    · exact h.ge x g hg

/-- things told so far: none twice, all of a list's first k, and all of these are among them -/
structure FT (fr : List T) (k : Nat) (xs : List T) : Prop where
  nod : xs.Nodup
  st : ∀ x ∈ fr.take k, x ∈ xs
  le : ∀ x ∈ xs, x ∈ fr
theorem ft_start (fr : List T) : FT fr 0 [] := ⟨List.nodup_nil, fun x hx => by simp at hx, fun x hx => by cases hx⟩
theorem ft_old {fr : List T} {k : Nat} {xs : List T} (h : FT fr k xs) (hk : k < fr.length) (hx : fr[k] ∈ xs) : FT fr (k + 1) xs :=
  ⟨h.nod, fun x hx2 => by
    rw [List.take_succ_eq_append_getElem hk, List.mem_append, List.mem_singleton] at hx2
    rcases hx2 with hx2 | rfl
    · exact h.st x hx2
    · exact hx, h.le⟩
theorem nod_snoc {xs : List T} {x : T} (h : xs.Nodup) (hx : x ∉ xs) : (xs ++ [x]).Nodup := by
  rw [List.nodup_append]
  refine ⟨h, List.nodup_cons.2 ⟨by simp, List.nodup_nil⟩, fun a ha b hb => ?_⟩
  rw [List.mem_singleton] at hb
  subst hb
  exact fun e => hx (e ▸ ha)
theorem ft_new {fr : List T} {k : Nat} {xs : List T} (h : FT fr k xs) (hk : k < fr.length) (hx : fr[k] ∉ xs) : FT fr (k + 1) (xs ++ [fr[k]]) :=
  ⟨nod_snoc h.nod hx, fun x hx2 => by
    rw [List.take_succ_eq_append_getElem hk, List.mem_append, List.mem_singleton] at hx2
    rw [List.mem_append, List.mem_singleton]
    rcases hx2 with hx2 | rfl
    · exact Or.inl (h.st x hx2)
    · exact Or.inr rfl, fun x hx2 => by
    rw [List.mem_append, List.mem_singleton] at hx2
    rcases hx2 with hx2 | rfl
    · exact h.le x hx2
    · exact List.getElem_mem hk⟩

/-- the search: the first i are done, and of that one's calls the first j -/
structure SB (l : List Ed) (fr xs : List T) (i j : Nat) (s : T) : Prop where
  nod : xs.Nodup
  st : ∀ x ∈ fr, x ∈ xs
  le : From l fr xs
  cl : ∀ x ∈ xs.take i, ∀ y ∈ tos l x, y ∈ xs
  at_ : j = 0 ∨ xs[i]? = some s
  rw : ∀ y ∈ (tos l s).take j, y ∈ xs
theorem SB.len {l : List Ed} {fr xs : List T} {i j : Nat} {s : T} (h : SB l fr xs i j s) : xs.length ≤ fr.length + l.length := h.le.len h.nod
theorem sb_start {l : List Ed} {fr xs : List T} (h : FT fr fr.length xs) (s : T) : SB l fr xs 0 0 s := ⟨h.nod, fun x hx => h.st x (by rw [List.take_length]; exact hx), fun X h1 _ x hx => h1 x (h.le x hx), fun x hx => by simp at hx, Or.inl rfl, fun y hy => by simp at hy⟩
theorem sb_take {l : List Ed} {fr xs : List T} {i : Nat} {s : T} (h : SB l fr xs i 0 s) (hi : i < xs.length) : SB l fr xs i 0 xs[i] := ⟨h.nod, h.st, h.le, h.cl, Or.inl rfl, fun y hy => by simp at hy⟩
theorem sb_old {l : List Ed} {fr xs : List T} {i j : Nat} {s : T} (h : SB l fr xs i j s) (hi : xs[i]? = some s) (hj : j < (tos l s).length) (hy : (tos l s)[j] ∈ xs) : SB l fr xs i (j + 1) s :=
  ⟨h.nod, h.st, h.le, h.cl, Or.inr hi, fun y hy2 => by
    rw [List.take_succ_eq_append_getElem hj, List.mem_append, List.mem_singleton] at hy2
    rcases hy2 with hy2 | rfl
    · exact h.rw y hy2
    · exact hy⟩
theorem sb_new {l : List Ed} {fr xs : List T} {i j : Nat} {s : T} (h : SB l fr xs i j s) (hi : xs[i]? = some s) (hj : j < (tos l s).length) (hy : (tos l s)[j] ∉ xs) : SB l fr (xs ++ [(tos l s)[j]]) i (j + 1) s := by
  have hlt : i < xs.length := (List.getElem?_eq_some_iff.1 hi).1
  have up : ∀ z ∈ xs, z ∈ xs ++ [(tos l s)[j]] := fun z hz => List.mem_append.2 (Or.inl hz)
  refine ⟨nod_snoc h.nod hy, fun x hx => up x (h.st x hx), fun X h1 h2 x hx => ?_, fun x hx y hy2 => ?_, Or.inr ?_, fun y hy2 => ?_⟩
  · rw [List.mem_append, List.mem_singleton] at hx
    rcases hx with hx | rfl
    · exact h.le X h1 h2 x hx
    · exact h2 (s, (tos l s)[j]) (mem_tos.1 (List.getElem_mem hj)) (h.le X h1 h2 s (List.mem_of_getElem? hi))
  · rw [List.take_append_of_le_length (by omega)] at hx
    exact up y (h.cl x hx y hy2)
  · rw [List.getElem?_append_left hlt]
    exact hi
  · rw [List.take_succ_eq_append_getElem hj, List.mem_append, List.mem_singleton] at hy2
    rcases hy2 with hy2 | rfl
    · exact up y (h.rw y hy2)
    · exact List.mem_append.2 (Or.inr (by simp))
theorem sb_round {l : List Ed} {fr xs : List T} {i : Nat} {s : T} (h : SB l fr xs i (tos l s).length s) (hi : xs[i]? = some s) : SB l fr xs (i + 1) 0 s := by
  obtain ⟨hlt, rfl⟩ := List.getElem?_eq_some_iff.1 hi
  refine ⟨h.nod, h.st, h.le, fun x hx y hy => ?_, Or.inl rfl, fun y hy => by simp at hy⟩
  rw [List.take_succ_eq_append_getElem hlt, List.mem_append, List.mem_singleton] at hx
  rcases hx with hx | rfl
  · exact h.cl x hx y hy
  · exact h.rw y (by rw [List.take_length]; exact hy)
theorem sb_end {l : List Ed} {fr xs : List T} {i : Nat} {s : T} (h : SB l fr xs i 0 s) (hi : xs.length ≤ i) : RS l fr (rsS xs) := by
  refine ⟨fun x hx => (mem_rsS xs x).2 (h.st x hx), fun e he h1 => (mem_rsS xs _).2 (h.cl e.1 ?_ e.2 (mem_tos.2 he)), fun X h1 h2 x hx => h.le X h1 h2 x ((mem_rsS xs x).1 hx)⟩
  rw [List.take_of_length_le hi]
  exact (mem_rsS xs _).1 h1
end Go.Proofs.YtohdcmmkbblhkaaGreatDoor.qy

/-
  query: what is reached: the program's.
-/
set_option linter.all false
namespace Go.Proofs.YtohdcmmkbblhkaaGreatDoor.qy
open Go.RowKit Go.Sort Go.Shelf Go.Maps Go.Proofs.YtohdcmmkbblhkaaGreatDoor.mem Go.Proofs.YtohdcmmkbblhkaaGreatDoor.wd Go.Proofs.YtohdcmmkbblhkaaGreatDoor.mp Go.Proofs.YtohdcmmkbblhkaaGreatDoor.rng
open Go.Proofs.YtohdcmmkbblhkaaGreatDoor.inn (rsS mem_rsS info_str)
open Go.Proofs.YtohdcmmkbblhkaaGreatDoor.ins (TM tm_new tm_old tm_len tm_at WF atV rising_new)
attribute [local go_sem] Oper.semAt_some

/-- what the program hands out -/
def RpPost (w : World) (l : List Ed) (fr : List T) (e : Ending) (w' : World) : Prop := ∃ A cap R, e = .returned (.slice A (List.length R) cap) ∧ Rd w' A (R.map encStr) ∧ Below w.heap.size w w' ∧ R.Pairwise (· < ·) ∧ RS l fr R

set_option maxHeartbeats 8000000 in
set_option maxRecDepth 100000 in
theorem reach_any (w : World) (A B : Option Addr) (cap c : Nat) (l : List Ed) (fr : List T) (h : EdM w A l) (hf : Rd w B (fr.map encStr)) (hl : l.length ≤ 100) (hfl : fr.length ≤ 1000) (hle : ∀ e ∈ l, WF e.1 ∧ WF e.2) (hfe : ∀ x ∈ fr, WF x) :
    Calls Tryz.prog 21 #[.slice A l.length cap, .slice B fr.length c] w (RpPost w l fr) := by
  have H := Lib.hid (fun W (hb : Below w.heap.size w W) => h.below hb)
  have HF := Lib.hid (fun W (hb : Below w.heap.size w W) => hf.below hb)
  have HL := Lib.hid hle
  have HFE := Lib.hid hfe
  have hG0 := Lib.hid (GR.new w)
  obtain ⟨i0, hi0, hz0, hz1, hz2⟩ := info_parts inn.info_str
  have Hi := Lib.hid hi0
  have Hz0 := Lib.hid hz0
  have Hz1 := Lib.hid hz1
  have Hz2 := Lib.hid hz2
  clear h hf hle hfe hi0 hz0 hz1 hz2
  unfold RpPost
  obtain ⟨n, hN⟩ : ∃ n, Hid (n = l.length) := ⟨_, Lib.hid rfl⟩
  obtain ⟨m, hM⟩ : ∃ m, Hid (m = fr.length) := ⟨_, Lib.hid rfl⟩
  rw [← hN.out] at hl ⊢
  rw [← hM.out] at hfl ⊢
  have hmm := @run_makeMap Tryz.prog
  refine (callsIn_wide (n := 8)).1 ?_
  refine callsIn_of_wp_marks Tryz.func21 rfl trivial ?_ rfl
  simp only [Tryz.ntmps21, List.size_toArray, List.length_cons, List.length_nil, Nat.reduceAdd, Nat.reduceSub, Array.replicate_succ, Array.replicate_zero, List.push_toArray, List.append_toArray, List.nil_append, List.cons_append]
  refine wpIn_wide.2 ?_
  go_wp2_with fail
  clear hmm
  go_loopw [21] (fun i wr => ∃ (k : Nat) (hd : Hd), k ≤ n ∧ i = .int .i64 k ∧ Hid (GR w wr w.heap.size k hd (l.take k))) (fun i _ => n - (intOf i).toNat)
  case atStart => exact ⟨0, _, by omega, rfl, hG0⟩
  case round =>
    obtain ⟨k, hd, hk, rfl, hG⟩ := hrel
    clear hG0
    rename World => wr
    by_cases hkn : k < n
    · have d1 : decide ((k : Int) < (n : Int)) = true := decide_eq_true (by omega)
      have hkl : k < l.length := by rw [← hN.out]; exact hkn
      obtain ⟨g, off, rfl, hg, ca, cb⟩ := ed_at (H.out wr hG.out.on) hkl
      have hwf := HL.out _ (List.getElem_mem hkl)
      have hts := Lib.hid (List.take_succ_eq_append_getElem hkl)
      have htl := Lib.hid (tos_len (l.take k) l[k].1)
      generalize l[k] = pk at *
      clear hkl hg
      obtain ⟨x, y⟩ := pk
      dsimp only at ca cb hwf htl
      have hwx' := Lib.hid hwf.1
      go_wp2_with fail
      have htn : (tos (l.take k) x).length ≤ 100 := by have := htl.out; rw [List.length_take] at this; omega
      have GB : Hid (GR w (wr.alloc (.cells #[.string ⟨x.toArray⟩, .string ⟨y.toArray⟩] 64)).drew w.heap.size k hd (l.take k)) := Lib.hid (hG.out.below ((Fr.refl [] wr).alloc _).drew.all)
      have BX := (Box.new wr 64 #[.string ⟨x.toArray⟩, .string ⟨y.toArray⟩])
      obtain ⟨S, hSd⟩ : ∃ S : World → Prop, Hid (∀ W', S W' ↔ (W'.cell? ⟨wr.heap.size, 0, none⟩ = some (.string ⟨x.toArray⟩) ∧ W'.cell? ⟨wr.heap.size, 1, none⟩ = some (.string ⟨y.toArray⟩))) := ⟨_, Lib.hid fun _ => Iff.rfl⟩
      have BD : Hid (Box (wr.alloc (.cells #[.string ⟨x.toArray⟩, .string ⟨y.toArray⟩] 64)).drew wr.heap.size 64 #[.string ⟨x.toArray⟩, .string ⟨y.toArray⟩]) := Lib.hid BX
      have keepS : Hid (∀ W F, Fr F (wr.alloc (.cells #[.string ⟨x.toArray⟩, .string ⟨y.toArray⟩] 64)).drew W → wr.heap.size ∉ F → S W) := Lib.hid (fun W F hF hn => (hSd.out _).2 ⟨(BD.out.kept hF hn).cell 0, (BD.out.kept hF hn).cell 1⟩)
      clear BX ca cb BD
      generalize hwx : (wr.alloc (.cells #[.string ⟨x.toArray⟩, .string ⟨y.toArray⟩] 64)).drew = wx at *
      have hS1 : S wx := keepS.out wx [] (Fr.refl [] _) (by simp)
      have hne0 : Hid (∀ g ∈ blk (hd x).1, wr.heap.size ≠ g) := Lib.hid (fun g hg e => by have := (hG.out.seg x).lt g hg; omega)
      have hbl : Hid (w.heap.size ≠ wr.heap.size) := Lib.hid (by obtain ⟨_, hm⟩ := hG.out.map; have := hm.lt; omega)
      have HLk : Hid (∀ W o, W = wx ∨ W = wx.alloc o → (Instr.lookup 75 (.map (some w.heap.size)) (.string ⟨x.toArray⟩) false).run Tryz.prog W = .ok (.slice (hd x).1 (tos (l.take k) x).length (hd x).2) W) := Lib.hid (fun W o hW => by
        rcases hW with rfl | rfl
        · exact GB.out.look x hwx'.out
        · exact (GB.out.below ((Fr.refl [] wx).alloc o).all).look x hwx'.out)
      refine wp_normal ?_
      refine wp_region_held_drew (S := S) (by kernel_rfl) (by rw [hwx]; exact hS1) (fun _ => ?_)
      rw [hwx]
      refine wpAnyH_take (i := 0) (v := (.map (some w.heap.size))) rfl (by kernel_rfl) (by kernel_rfl) (by kernel_rfl) (fun _ _ _ h => absurd h.1 (by simp)) (Or.inl ⟨by kernel_rfl, ?_⟩) hS1 ?_
      · intro W' hSw
        obtain ⟨s0, s1⟩ := (hSd.out _).1 hSw
        go_simp
      change wpAnyH _ _ _ _ _ _ _ (Act.put _ (some 25) _) _
      simp only [Act.put, List.setIfInBounds_toArray, List.set_cons_zero, List.set_cons_succ]
      refine wpAnyH_take (i := 1) (v := (.pointer (some ⟨wr.heap.size, 0, none⟩))) rfl (by kernel_rfl) (by kernel_rfl) (by kernel_rfl) (fun _ _ _ h => absurd h.1 (by simp)) (Or.inl ⟨by kernel_rfl, ?_⟩) hS1 ?_
      · intro W' hSw
        obtain ⟨s0, s1⟩ := (hSd.out _).1 hSw
        go_simp
      change wpAnyH _ _ _ _ _ _ _ (Act.put _ (some 26) _) _
      simp only [Act.put, List.setIfInBounds_toArray, List.set_cons_zero, List.set_cons_succ]
      refine wpAnyH_take (i := 2) (v := (.string ⟨x.toArray⟩)) rfl (by kernel_rfl) (by kernel_rfl) (by kernel_rfl) (fun _ _ _ h => absurd h.1 (by simp)) (Or.inl ⟨by kernel_rfl, ?_⟩) hS1 ?_
      · intro W' hSw
        obtain ⟨s0, s1⟩ := (hSd.out _).1 hSw
        go_simp
      change wpAnyH _ _ _ _ _ _ _ (Act.put _ (some 27) _) _
      simp only [Act.put, List.setIfInBounds_toArray, List.set_cons_zero, List.set_cons_succ]
      refine wpAnyH_take (i := 3) (v := (.map (some w.heap.size))) rfl (by kernel_rfl) (by kernel_rfl) (by kernel_rfl) (fun _ _ _ h => absurd h.1 (by simp)) (Or.inl ⟨by kernel_rfl, ?_⟩) hS1 ?_
      · intro W' hSw
        obtain ⟨s0, s1⟩ := (hSd.out _).1 hSw
        go_simp
      change wpAnyH _ _ _ _ _ _ _ (Act.put _ (some 28) _) _
      simp only [Act.put, List.setIfInBounds_toArray, List.set_cons_zero, List.set_cons_succ]
      refine wpAnyH_take (i := 4) (v := (.pointer (some ⟨wr.heap.size, 0, none⟩))) rfl (by kernel_rfl) (by kernel_rfl) (by kernel_rfl) (fun _ _ _ h => absurd h.1 (by simp)) (Or.inl ⟨by kernel_rfl, ?_⟩) hS1 ?_
      · intro W' hSw
        obtain ⟨s0, s1⟩ := (hSd.out _).1 hSw
        go_simp
      change wpAnyH _ _ _ _ _ _ _ (Act.put _ (some 29) _) _
      simp only [Act.put, List.setIfInBounds_toArray, List.set_cons_zero, List.set_cons_succ]
      refine wpAnyH_take (i := 5) (v := (.string ⟨x.toArray⟩)) rfl (by kernel_rfl) (by kernel_rfl) (by kernel_rfl) (fun _ _ _ h => absurd h.1 (by simp)) (Or.inl ⟨by kernel_rfl, ?_⟩) hS1 ?_
      · intro W' hSw
        obtain ⟨s0, s1⟩ := (hSd.out _).1 hSw
        go_simp
      change wpAnyH _ _ _ _ _ _ _ (Act.put _ (some 30) _) _
      simp only [Act.put, List.setIfInBounds_toArray, List.set_cons_zero, List.set_cons_succ]
      refine wpAnyH_take (i := 7) (v := (.pointer (some ⟨wr.heap.size, 1, none⟩))) rfl (by kernel_rfl) (by kernel_rfl) (by kernel_rfl) (fun _ _ _ h => absurd h.1 (by simp)) (Or.inl ⟨by kernel_rfl, ?_⟩) hS1 ?_
      · intro W' hSw
        obtain ⟨s0, s1⟩ := (hSd.out _).1 hSw
        go_simp
      change wpAnyH _ _ _ _ _ _ _ (Act.put _ (some 32) _) _
      simp only [Act.put, List.setIfInBounds_toArray, List.set_cons_zero, List.set_cons_succ]
      refine wpAnyH_take (i := 8) (v := (.string ⟨y.toArray⟩)) rfl (by kernel_rfl) (by kernel_rfl) (by kernel_rfl) (fun _ _ _ h => absurd h.1 (by simp)) (Or.inl ⟨by kernel_rfl, ?_⟩) hS1 ?_
      · intro W' hSw
        obtain ⟨s0, s1⟩ := (hSd.out _).1 hSw
        go_simp
      change wpAnyH _ _ _ _ _ _ _ (Act.put _ (some 33) _) _
      simp only [Act.put, List.setIfInBounds_toArray, List.set_cons_zero, List.set_cons_succ]
      refine wpAnyH_ready (rs := [6, 9]) (by kernel_rfl) (by simp) ?_
      refine AllReadyH.cons rfl (fun K hK => ?_) (AllReadyH.cons rfl (fun K hK => ?_) AllReadyH.nil)
      · have h6 := HLk.out wx (.map #[] 0) (Or.inl rfl)
        go_simp
        refine hK.out _ _ hS1 (fun _ => ?_)
        clear hK h6
        try simp only [Act.put, List.setIfInBounds_toArray, List.set_cons_zero, List.set_cons_succ]
        refine wpAnyH_ready (rs := [9]) (by kernel_rfl) (by simp) ?_
        refine AllReadyH.cons rfl (fun K hK => ?_) AllReadyH.nil
        go_simp
        have hS2 : S (wx.alloc (.cells #[.string ⟨y.toArray⟩] 9)) := keepS.out _ [] ((Fr.refl [] wx).alloc _) (by simp)
        refine hK.out _ _ hS2 (fun _ => ?_)
        clear hK
        try simp only [Act.put, List.setIfInBounds_toArray, List.set_cons_zero, List.set_cons_succ]
        refine wpAnyH_ready (rs := [10]) (by kernel_rfl) (by simp) ?_
        refine AllReadyH.cons rfl (fun K hK => ?_) AllReadyH.nil
        refine step_push (n := (tos (l.take k) x).length) (by rfl) (.tmp 31) (.tmp 34) _ (by rfl) ((GB.out.seg x).alloc _) (by simp) Tryz.underlying26 Hi.out Hz0.out Hz1.out Hz2.out rfl (by rfl) (by rfl) (new_cell _ _ _) rfl (by omega) (by omega) ?_
        intro A3 cap3 w3 hs3 f3 hf3
        obtain ⟨has, hm⟩ := GB.out.map
        have hm3 := (hm.below ((Fr.refl [] wx).alloc (.cells #[.string ⟨y.toArray⟩] 9)).all).kept f3 (GB.out.out x)
        have h03 := ((Fr.refl [] wx).alloc (.cells #[.string ⟨y.toArray⟩] 9)).trans (G := blk (hd x).1) f3 (fun g hg => (by cases hg)) (fun g hg => Or.inl hg)
        refine hK.out _ _ (keepS.out _ _ h03 (fun hg => hne0.out _ hg rfl)) (fun _ => ?_)
        clear hK
        try simp only [Act.put, List.setIfInBounds_toArray, List.set_cons_zero, List.set_cons_succ]
        refine wpAnyH_ready (rs := [11]) (by kernel_rfl) (by simp) ?_
        refine AllReadyH.cons rfl (fun K hK => ?_) AllReadyH.nil
        refine step_put (by rfl) (.tmp 25) (.tmp 27) (.tmp 35) _ (by rfl) hm3 (Maps.string_keyed Tryz.underlying9) Tryz.underlying75 (by unfold maxLen; omega) (s := ⟨x.toArray⟩) (ins.key_s hwx'.out) (v := .slice A3 ((tos (l.take k) x).length + 1) cap3) rfl rfl rfl ?_
        intro w4 hm4 hg4
        have h04 := (h03.mono (G := w.heap.size :: blk (hd x).1) (fun g hg => Or.inl (List.mem_cons_of_mem _ hg))).grown hg4 (fun q e => by cases e; exact Or.inl List.mem_cons_self)
        refine hK.out _ _ (keepS.out _ _ h04 (fun hg => by rcases List.mem_cons.1 hg with e | hg; exact hbl.out e.symm; exact hne0.out _ hg rfl)) (fun _ => ?_)
        have hG4 : Hid (GR w w4 w.heap.size (k + 1) (fun z => if z = x then (A3, cap3) else hd z) (l.take (k + 1))) := Lib.hid (by rw [hts.out]; exact GB.out.push hs3 f3 hf3 hm4 hg4)
        clear hK hm4 hg4 h04 h03 hm3 hm hs3 f3 hf3 hG GB keepS hne0 hbl hSd hS1 HLk
        refine wpAnyH_done (by kernel_rfl) ?_ _
        refine ⟨rfl, ?_⟩
        go_wp2_with fail
        go_roundw
        case rel => exact ⟨k + 1, _, by omega, by go_num, hG4⟩
        case measure => simp [intOf]; omega
      · go_simp
        have hS2 : S (wx.alloc (.cells #[.string ⟨y.toArray⟩] 9)) := keepS.out _ [] ((Fr.refl [] wx).alloc _) (by simp)
        refine hK.out _ _ hS2 (fun _ => ?_)
        clear hK
        try simp only [Act.put, List.setIfInBounds_toArray, List.set_cons_zero, List.set_cons_succ]
        refine wpAnyH_ready (rs := [6]) (by kernel_rfl) (by simp) ?_
        refine AllReadyH.cons rfl (fun K hK => ?_) AllReadyH.nil
        have h6 := HLk.out (wx.alloc (.cells #[.string ⟨y.toArray⟩] 9)) _ (Or.inr rfl)
        go_simp
        refine hK.out _ _ hS2 (fun _ => ?_)
        clear hK h6
        try simp only [Act.put, List.setIfInBounds_toArray, List.set_cons_zero, List.set_cons_succ]
        refine wpAnyH_ready (rs := [10]) (by kernel_rfl) (by simp) ?_
        refine AllReadyH.cons rfl (fun K hK => ?_) AllReadyH.nil
        refine step_push (n := (tos (l.take k) x).length) (by rfl) (.tmp 31) (.tmp 34) _ (by rfl) ((GB.out.seg x).alloc _) (by simp) Tryz.underlying26 Hi.out Hz0.out Hz1.out Hz2.out rfl (by rfl) (by rfl) (new_cell _ _ _) rfl (by omega) (by omega) ?_
        intro A3 cap3 w3 hs3 f3 hf3
        obtain ⟨has, hm⟩ := GB.out.map
        have hm3 := (hm.below ((Fr.refl [] wx).alloc (.cells #[.string ⟨y.toArray⟩] 9)).all).kept f3 (GB.out.out x)
        have h03 := ((Fr.refl [] wx).alloc (.cells #[.string ⟨y.toArray⟩] 9)).trans (G := blk (hd x).1) f3 (fun g hg => (by cases hg)) (fun g hg => Or.inl hg)
        refine hK.out _ _ (keepS.out _ _ h03 (fun hg => hne0.out _ hg rfl)) (fun _ => ?_)
        clear hK
        try simp only [Act.put, List.setIfInBounds_toArray, List.set_cons_zero, List.set_cons_succ]
        refine wpAnyH_ready (rs := [11]) (by kernel_rfl) (by simp) ?_
        refine AllReadyH.cons rfl (fun K hK => ?_) AllReadyH.nil
        refine step_put (by rfl) (.tmp 25) (.tmp 27) (.tmp 35) _ (by rfl) hm3 (Maps.string_keyed Tryz.underlying9) Tryz.underlying75 (by unfold maxLen; omega) (s := ⟨x.toArray⟩) (ins.key_s hwx'.out) (v := .slice A3 ((tos (l.take k) x).length + 1) cap3) rfl rfl rfl ?_
        intro w4 hm4 hg4
        have h04 := (h03.mono (G := w.heap.size :: blk (hd x).1) (fun g hg => Or.inl (List.mem_cons_of_mem _ hg))).grown hg4 (fun q e => by cases e; exact Or.inl List.mem_cons_self)
        refine hK.out _ _ (keepS.out _ _ h04 (fun hg => by rcases List.mem_cons.1 hg with e | hg; exact hbl.out e.symm; exact hne0.out _ hg rfl)) (fun _ => ?_)
        have hG4 : Hid (GR w w4 w.heap.size (k + 1) (fun z => if z = x then (A3, cap3) else hd z) (l.take (k + 1))) := Lib.hid (by rw [hts.out]; exact GB.out.push hs3 f3 hf3 hm4 hg4)
        clear hK hm4 hg4 h04 h03 hm3 hm hs3 f3 hf3 hG GB keepS hne0 hbl hSd hS1 HLk
        refine wpAnyH_done (by kernel_rfl) ?_ _
        refine ⟨rfl, ?_⟩
        go_wp2_with fail
        go_roundw
        case rel => exact ⟨k + 1, _, by omega, by go_num, hG4⟩
        case measure => simp [intOf]; omega
    · obtain rfl : k = n := by omega
      have d1 : decide ((k : Int) < (k : Int)) = false := decide_eq_false (by omega)
      have hGL : Hid (GR w wr w.heap.size k hd l) := Lib.hid (by
        have := hG.out
        rwa [List.take_of_length_le (by rw [hN.out]; exact Nat.le_refl _)] at this)
      have hT0 := Lib.hid (TM.new wr)
      have hF0 := Lib.hid (ft_start fr)
      clear hG
      go_wp2_with fail
      go_loopw [39] (fun i wx => ∃ (j N : Nat) (xs : List T), j ≤ m ∧ N ≤ j ∧ i = .int .i64 j ∧ Hid (FT fr j xs) ∧ Hid (TM wr wx wr.heap.size N xs [] none 0)) (fun i _ => m - (intOf i).toNat)
      case atStart => exact ⟨0, 0, [], by omega, by omega, rfl, hF0, hT0⟩
      case round =>
        obtain ⟨j, N, xs, hj, hNj, rfl, hF, hT⟩ := hrel
        clear hT0 hF0
        rename World => wx
        by_cases hjm : j < m
        · have e1 : decide ((j : Int) < (m : Int)) = true := decide_eq_true (by omega)
          have hjl : j < fr.length := by rw [← hM.out]; exact hjm
          obtain ⟨g, off, rfl, hg, cj⟩ := rd_at (HF.out wx (hGL.out.on.trans (hT.out.on.mono hGL.out.on.size))) hjl
          have hwx := HFE.out _ (List.getElem_mem hjl)
          by_cases hin : fr[j] ∈ xs
          · have hK := Lib.hid (tm_old hT.out fr[j] hwx hin)
            have hF2 := Lib.hid (ft_old hF.out hjl hin)
            clear hF hin hwx
            generalize fr[j] = x at *
            generalize ins.noOf xs x = z at *
            unfold encStr at cj hK
            go_wp2_with fail
            refine hK.out.mono ?_
            rintro e w4 ⟨rfl, hT4⟩
            have hT4 := Lib.hid hT4
            clear hK cj hT
            go_wp2_with fail
            go_roundw
            case rel => exact ⟨j + 1, _, _, by omega, by omega, by go_num, hF2, hT4⟩
            case measure => simp [intOf]; omega
          · have hK := Lib.hid (tm_new hT.out fr[j] hwx hin (by omega))
            have hF2 := Lib.hid (ft_new hF.out hjl hin)
            clear hF hin hwx
            generalize fr[j] = x at *
            unfold encStr at cj hK
            go_wp2_with fail
            refine hK.out.mono ?_
            rintro e w4 ⟨rfl, hT4⟩
            have hT4 := Lib.hid hT4
            clear hK cj hT
            go_wp2_with fail
            go_roundw
            case rel => exact ⟨j + 1, _, _, by omega, by omega, by go_num, hF2, hT4⟩
            case measure => simp [intOf]; omega
        · obtain rfl : j = m := by omega
          have e1 : decide ((j : Int) < (j : Int)) = false := decide_eq_false (by omega)
          have hS0 : Hid (SB l fr xs 0 0 []) := Lib.hid (sb_start (by have := hF.out; rwa [hM.out] at this) [])
          have hfj : Hid (fr.length = j) := Lib.hid hM.out.symm
          clear hF
          go_wp2_with fail
          have hT0 : Hid (∃ N, N ≤ 1000 ∧ TM wr wx wr.heap.size N xs [] none 0) := Lib.hid ⟨N, by omega, hT.out⟩
          clear hT
          go_loopw [11] (fun v wy => ∃ (i N : Nat) (xs : List T) (s : T), i ≤ xs.length ∧ N ≤ 1000 + i * 100 ∧ v = .int .i64 i ∧ Hid (SB l fr xs i 0 s) ∧ Hid (TM wr wy wr.heap.size N xs [] none 0)) (fun v _ => 2000 - (intOf v).toNat)
          case atStart =>
            obtain ⟨N1, hN1, hT1⟩ := hT0.out
            exact ⟨0, N1, xs, [], by omega, by omega, rfl, hS0, Lib.hid hT1⟩
          case round =>
            obtain ⟨i, N, ys, s0, hi, hNi, rfl, hS, hT⟩ := hrel
            clear hT0 hS0
            rename World => wy
            have hlen : ys.length ≤ 1100 := by
              have h1 := hS.out.len
              have h2 := hfj.out
              have h3 := hN.out
              omega
            have hK := Lib.hid (tm_len hT.out)
            by_cases hil : i < ys.length
            · have e2 : decide ((i : Int) < (ys.length : Int)) = true := decide_eq_true (by omega)
              have hS1 := Lib.hid (sb_take hS.out hil)
              have hs : Hid (ys[i]? = some ys[i]) := Lib.hid (List.getElem?_eq_getElem hil)
              have hKA := Lib.hid (tm_at hT.out i)
              rw [show atV ys (i : Int) = .tuple #[encStr ys[i], .bool true] by unfold atV; rw [dif_pos (by omega)]; simp] at hKA
              have hwf : WF ys[i] := by
                obtain ⟨_, _, _, ha, _⟩ := hT.out.ex
                exact ha.wf _ (List.getElem_mem hil)
              have HG := Lib.hid (fun W (hb : Below wr.heap.size wr W) => hGL.out.below hb)
              have hlk := Lib.hid ((HG.out wy hT.out.on).look _ hwf)
              clear hS hwf
              generalize ys[i] = s at *
              have htl : (tos l s).length ≤ 100 := by
                have h1 := tos_len l s
                have h2 := hN.out
                omega
              unfold encStr at hKA hlk
              go_wp2_with fail
              refine hK.out.mono ?_
              rintro e w4 ⟨rfl, rfl⟩
              go_wp2_with fail
              refine hKA.out.mono ?_
              rintro e w4 ⟨rfl, rfl⟩
              have hlk2 := hlk.out
              obtain ⟨tn, htn⟩ : ∃ tn, Hid (tn = (tos l s).length) := ⟨_, Lib.hid rfl⟩
              rw [← htn.out] at hlk2 htl
              have HR := Lib.hid (fun W (hb : Below wr.heap.size wr W) => ((HG.out W hb).seg s).rd)
              have hTW := Lib.hid (fun y (hy : y ∈ tos l s) => (HL.out _ (mem_tos.1 hy)).2)
              generalize hd s = hds at *
              obtain ⟨rA, rc⟩ := hds
              dsimp only at hlk2 HR
              clear hK hKA hlk HG
              go_wp2_with fail
              clear hlk2
              go_loopw [60] (fun v wz => ∃ (q N2 : Nat) (zs : List T), q ≤ tn ∧ N2 ≤ 1000 + i * 100 + q ∧ v = .int .i64 q ∧ Hid (SB l fr zs i q s) ∧ Hid (zs[i]? = some s) ∧ Hid (TM wr wz wr.heap.size N2 zs [] none 0)) (fun v _ => tn - (intOf v).toNat)
              case atStart => exact ⟨0, N, ys, by omega, by omega, rfl, hS1, hs, hT⟩
              case round =>
                obtain ⟨q, N2, zs, hq, hN2, rfl, hSj, hat, hT2⟩ := hrel
                clear hS1 hs hT
                rename World => wz
                by_cases hqt : q < tn
                · have e3 : decide ((q : Int) < (tn : Int)) = true := decide_eq_true (by omega)
                  have hjl : q < (tos l s).length := by rw [← htn.out]; exact hqt
                  obtain ⟨g, off, rfl, hg, cj⟩ := rd_at (HR.out wz hT2.out.on) hjl
                  have hwx := hTW.out _ (List.getElem_mem hjl)
                  obtain ⟨x, hx⟩ : ∃ x, Hid (x = (tos l s)[q]) := ⟨_, Lib.hid rfl⟩
                  rw [← hx.out] at cj hwx
                  by_cases hin : x ∈ zs
                  · have hK := Lib.hid (tm_old hT2.out x hwx hin)
                    have hS2 := Lib.hid (sb_old hSj.out hat.out hjl (by rw [← hx.out]; exact hin))
                    try rw [← hx.out] at hS2
                    have hat2 : Hid ((zs)[i]? = some s) := Lib.hid (hat.out)
                    have hi2 : i < (zs).length := (List.getElem?_eq_some_iff.1 hat2.out).1
                    skip
                    clear hSj hwx
                    generalize ins.noOf zs x = z at *
                    unfold encStr at cj hK
                    clear hx
                    go_wp2_with fail
                    refine hK.out.mono ?_
                    rintro e w4 ⟨rfl, hT4⟩
                    have hT4 := Lib.hid hT4
                    clear hK cj hT2
                    go_wp2_with fail
                    go_roundw
                    case rel => exact ⟨q + 1, _, _, by omega, by omega, by go_num, hS2, hat2, hT4⟩
                    case measure => simp [intOf]; omega
                  · have hK := Lib.hid (tm_new hT2.out x hwx hin (by omega))
                    have hS2 := Lib.hid (sb_new hSj.out hat.out hjl (by rw [← hx.out]; exact hin))
                    try rw [← hx.out] at hS2
                    have hat2 : Hid ((zs ++ [x])[i]? = some s) := Lib.hid (by rw [List.getElem?_append_left (List.getElem?_eq_some_iff.1 hat.out).1]; exact hat.out)
                    have hi2 : i < (zs ++ [x]).length := (List.getElem?_eq_some_iff.1 hat2.out).1
                    skip
                    clear hSj hwx
                    skip
                    unfold encStr at cj hK
                    clear hx
                    go_wp2_with fail
                    refine hK.out.mono ?_
                    rintro e w4 ⟨rfl, hT4⟩
                    have hT4 := Lib.hid hT4
                    clear hK cj hT2
                    go_wp2_with fail
                    go_roundw
                    case rel => exact ⟨q + 1, _, _, by omega, by omega, by go_num, hS2, hat2, hT4⟩
                    case measure => simp [intOf]; omega
                · obtain rfl : q = tn := by omega
                  have e3 : decide ((q : Int) < (q : Int)) = false := decide_eq_false (by omega)
                  have hS2 := Lib.hid (sb_round (by have := hSj.out; rwa [htn.out] at this) hat.out)
                  have hi2 : i < zs.length := (List.getElem?_eq_some_iff.1 hat.out).1
                  clear hSj
                  go_wp2_with fail
                  go_roundw
                  case rel => exact ⟨i + 1, N2, zs, s, by omega, by omega, by go_num, hS2, hT2⟩
                  case measure => simp [intOf]; omega
            · obtain rfl : i = ys.length := by omega
              have e2 : decide ((ys.length : Int) < (ys.length : Int)) = false := decide_eq_false (by omega)
              have hR := Lib.hid (sb_end hS.out (Nat.le_refl _))
              clear hS
              go_wp2_with fail
              refine hK.out.mono ?_
              rintro e w4 ⟨rfl, rfl⟩
              clear hK
              go_wp2_with fail
              refine (rising_new _ wr.heap.size).mono ?_
              rintro e w5 ⟨rfl, rfl⟩
              go_wp2_with fail
              obtain ⟨Ax, cx, mx, hTb, hfoot, _⟩ := hT.out.ex
              have hwy : Below w.heap.size w wy := hGL.out.on.trans (hT.out.on.mono hGL.out.on.size)
              have hb8 : wr.heap.size < wy.heap.size := hTb.box.lt
              have hmx : ∀ g ∈ mx.toList, g < wy.heap.size := hTb.set.lt
              obtain ⟨W5, hW5⟩ : ∃ W5, Hid (W5 = (wy.alloc (.cells #[.slice none 0 0] 26)).alloc (.cells #[.pointer (some ⟨wr.heap.size, 0, none⟩)] 111)) := ⟨_, Lib.hid rfl⟩
              have hPI : PI 26 9 wy W5 wy.heap.size [] none 0 := by
                rw [hW5.out]
                exact (PI.new wy _ _).below ((Fr.refl [] _).alloc _).all
              have hfr5 : Fr [] wy W5 := by rw [hW5.out]; exact ((Fr.refl [] wy).alloc _).alloc _
              have htb : Box W5 (wy.heap.size + 1) 111 #[.pointer (some ⟨wr.heap.size, 0, none⟩)] := by
                rw [hW5.out]
                have := Box.new (wy.alloc (.cells #[.slice none 0 0] 26)) 111 #[.pointer (some ⟨wr.heap.size, 0, none⟩)]
                rwa [World.size_alloc] at this
              have hsz5 : W5.heap.size = wy.heap.size + 2 := by rw [hW5.out]; simp
              have hT5 := hTb.kept hfr5 (by simp)
              rw [← hW5.out]
              refine (wpIn_wide (n := 8)).1 ?_
              refine range_put (Own := OwnP wy.heap.size) (by omega) (gf := 61) (lb := #[.pointer (some ⟨wy.heap.size + 1, 0, none⟩)]) rfl (enters_of Tryz.func61 (by kernel_rfl) rfl)
                (rise_own _ (by omega) (wy.heap.size + 1) wr.heap.size Ax cx mx N ys W5 hT5 htb (by omega)) (Below.refl _ _) (fun _ => rfl) (fun k hk => hPI.lt k hk) ?z (ownP_s (by omega))
                (fun (pre : List {x : List UInt8 // WF x}) W => ∃ A cap, PI 26 9 wy W wy.heap.size (pre.map fun x => encStr x.1) A cap)
                (fun s W W' row hs hg hr => by obtain ⟨A, cap, h⟩ := hs; exact ⟨A, cap, h.grown hg (fun r e => ⟨by have := (hr r e).1; omega, (hr r e).2⟩)⟩)
                ⟨none, 0, hPI⟩ 17 (fun x => encStr x.1) ?assign ?body ?done
              case z =>
                intro k hk
                rw [hPI.own]
                simp only [List.mem_cons] at hk
                rcases hk with rfl | rfl | hk
                · exact ⟨by simp [blk], by omega⟩
                · exact ⟨by simp [blk]; omega, by omega⟩
                · have := hmx k hk
                  exact ⟨by simp [blk]; omega, by omega⟩
              case assign =>
                intro l2 x W K hK
                simp [Act.put] at hK
                gi_wp2
                exact hK
              case body =>
                rintro l2 pre x W ⟨A1, cap1, hi⟩ hsz hlt
                have hpl : pre.length ≤ 1100 := by
                  have := inn.rs_len ys
                  omega
                have cb : W.cell? ⟨wy.heap.size, 0, none⟩ = some (.slice A1 pre.length cap1) := by
                  have := hi.bx.cell 0
                  rwa [List.length_map] at this
                have HI := Lib.hid hi
                obtain ⟨x, hx⟩ := x
                clear hi hPI hT5 htb hW5 hTb hfoot hT hGL hwy hmx
                unfold encStr
                gi_wp2_with (gi_at_builtin
                             refine wpListIn_push (n := pre.length) rfl (.tmp 70) (.tmp 72) _ rfl (HI.out.sg.alloc _) (by simp) Tryz.underlying26 Hi.out Hz0.out Hz1.out Hz2.out rfl rfl rfl (new_cell _ _ _) rfl (by omega) (by omega) ?_
                             intro A3 cap3 w3 hs3 f3 b3
                             have hp := HI.out.push (by decide) hs3 f3 b3
                             rw [List.length_map] at hp
                             have c3 := hp.1.1
                             have z3 := hp.1.2.1
                             have l3 := hp.1.2.2
                             have HP := Lib.hid hp.2
                             clear hp hs3 f3 b3)
                refine ⟨HP.out.1, A3, cap3, ?_⟩
                rw [List.map_append]
                exact HP.out.2
              case done =>
                rintro D xs W hD hS ⟨A1, cap1, hi⟩ hK
                have cb : W.cell? ⟨wy.heap.size, 0, none⟩ = some (.slice A1 (rsS ys).length cap1) := by
                  have := hi.bx.cell 0
                  rwa [List.length_map, show xs.length = (rsS ys).length by rw [← hS, List.length_map]] at this
                go_wp2_with fail
                refine ⟨by simp, .inl ⟨_, _, rfl, run_takeDeferred hK, ?_⟩⟩
                have hw := hi.grown (grownBy_putObj' W D (.deferred none)) (fun r e => by cases e; exact ⟨by omega, _, hK, rfl⟩)
                refine ⟨_, results_tmp rfl _ _ _, A1, cap1, rsS ys, rfl, ?_, hwy.trans (hw.on.mono hwy.size), rsS_pw ys, hR.out⟩
                have := hw.sg.rd
                rw [← hS, List.map_map]
                exact this
end Go.Proofs.YtohdcmmkbblhkaaGreatDoor.qy

/-
  Lists of lists of texts that grow, in blocks of the call's own.
-/
set_option linter.all false
namespace Go.Proofs.YtohdcmmkbblhkaaGreatDoor.qy
open Go.RowKit Go.Sort Go.Proofs.YtohdcmmkbblhkaaGreatDoor.mem

structure TRow where
  A : Option Addr
  cap : Nat
  xs : List T
def hdT (r : TRow) : Value := .slice r.A r.xs.length r.cap

theorem seg_ne {w : World} {e e' : TypeId} {A B : Option Addr} {c d : Nat} {xs ys : List Value} (h : Seg w e A c xs) (k : Seg w e' B d ys) (hne : e ≠ e') : ∀ g ∈ blk A, g ∉ blk B := by
  intro g hg hg2
  cases A with
  | none => cases hg
  | some a =>
    cases B with
    | none => cases hg2
    | some b =>
      simp only [blk, List.mem_singleton] at hg hg2
      obtain ⟨_, cur, hc, _⟩ := h.2.2.2 a rfl
      obtain ⟨_, cur2, hc2, _⟩ := k.2.2.2 b rfl
      rw [← hg] at hc
      rw [← hg2, hc] at hc2
      injection hc2 with hc2
      injection hc2 with _ h2
      exact hne h2

/-- rows told so far -/
structure QO (w W : World) (Ao : Option Addr) (co : Nat) (rows : List TRow) : Prop where
  so : Seg W 26 Ao co (rows.map hdT)
  go : ∀ x ∈ blk Ao, w.heap.size ≤ x
  rw_ : ∀ r ∈ rows, Seg W 9 r.A r.cap (r.xs.map encStr)
  on : Below w.heap.size w W
theorem QO.new (w : World) : QO w w none 0 [] := ⟨Seg.nil _ _, fun x hx => (by cases hx), fun r hr => (by cases hr), Below.refl _ _⟩
theorem QO.below {w W W' : World} {Ao : Option Addr} {co : Nat} {rows : List TRow} (h : QO w W Ao co rows) (hb : Below W.heap.size W W') : QO w W' Ao co rows :=
  ⟨h.so.kept (Fr.of_below hb []) (by simp), h.go, fun r hr => (h.rw_ r hr).kept (Fr.of_below hb []) (by simp), h.on.trans (hb.mono h.on.size)⟩
theorem QO.close {w W W1 : World} {Ao A' : Option Addr} {co c' : Nat} {rows : List TRow} (h : QO w W Ao co rows) {r : TRow} (hp : Seg W 9 r.A r.cap (r.xs.map encStr)) {o : Obj} (hs : Seg W1 26 A' c' (rows.map hdT ++ [hdT r])) (f : Fr (blk Ao) (W.alloc o) W1) (b : blk A' = blk Ao ∨ blk A' = [(W.alloc o).heap.size]) : QO w W1 A' c' (rows ++ [r]) := by
  have f2 : Fr (blk Ao) W W1 := ((Fr.refl [] W).alloc o).trans f (fun g hg => (by cases hg)) (fun g hg => Or.inl hg)
  refine ⟨by rw [List.map_append]; exact hs, fun x hx => ?_, fun q hq => ?_, h.on.trans (f2.below h.go h.on.size)⟩
  · rcases b with e | e
    · exact h.go x (e ▸ hx)
    · rw [e, List.mem_singleton] at hx
      subst hx
      have := h.on.size
      simp
      omega
  · rcases List.mem_append.1 hq with hq | hq
    · exact (h.rw_ q hq).kept f2 (seg_ne (h.rw_ q hq) h.so (by decide))
    · rw [List.mem_singleton] at hq
      subst hq
      exact hp.kept f2 (seg_ne hp h.so (by decide))

/-- lists of texts, handed out -/
def OrPost (w : World) (L : List (List T)) (e : Ending) (W : World) : Prop := ∃ A c rows, e = .returned (.slice A (List.length rows) c) ∧ List.map (·.xs) rows = L ∧ Rd W A (List.map hdT rows) ∧ (∀ r ∈ rows, Rd W r.A (r.xs.map encStr) ∧ r.xs.length ≤ r.cap) ∧ Below w.heap.size w W
end Go.Proofs.YtohdcmmkbblhkaaGreatDoor.qy

/-
  query: where a name stands in parts; the same lists of texts.
-/
set_option linter.all false
namespace Go.Proofs.YtohdcmmkbblhkaaGreatDoor.qy
open Go.RowKit Go.Sort Go.Shelf Go.Proofs.YtohdcmmkbblhkaaGreatDoor.mem Go.Proofs.YtohdcmmkbblhkaaGreatDoor.wd

/-- parts as they lie -/
structure RT (w : World) (A : Option Addr) (rows : List TRow) : Prop where
  hd : Rd w A (rows.map hdT)
  rw_ : ∀ r ∈ rows, Rd w r.A (r.xs.map encStr)
theorem RT.below {w w' : World} {A : Option Addr} {rows : List TRow} (h : RT w A rows) (hb : Below w.heap.size w w') : RT w' A rows := ⟨h.hd.below hb, fun r hr => (h.rw_ r hr).below hb⟩
theorem trow_at {w : World} {A : Option Addr} {rows : List TRow} (h : Rd w A (rows.map hdT)) {k : Nat} (hk : k < rows.length) : ∃ b off, A = some ⟨b, off, none⟩ ∧ b < w.heap.size ∧ w.cell? ⟨b, off + k, none⟩ = some (hdT rows[k]) := by
  obtain ⟨b, off, e, hl, hc⟩ := h (by rw [List.length_map]; omega)
  exact ⟨b, off, e, hl, by rw [hc k (by rw [List.length_map]; exact hk), List.getElem_map]⟩

/-- the last part that has a name, and how often it stands there -/
def plR (x : T) (p : Nat) (r : List T) (s : Int × Int) : Int × Int := r.foldl (fun s y => if y = x then ((p : Int), s.2 + 1) else s) s
def plF (x : T) (L : List (List T)) : Int × Int := L.zipIdx.foldl (fun s rp => plR x rp.2 rp.1 s) (-1, 0)
def placeV (L : List (List T)) (x : T) : Int := if (plF x L).2 = 1 then (plF x L).1 else -1
theorem plR_snoc (x : T) (p : Nat) (r : List T) (y : T) (s : Int × Int) : plR x p (r ++ [y]) s = if y = x then ((p : Int), (plR x p r s).2 + 1) else plR x p r s := by
  unfold plR
  rw [List.foldl_append]
  rfl
theorem plF_snoc (x : T) (L : List (List T)) (r : List T) : plF x (L ++ [r]) = plR x L.length r (plF x L) := by
  unfold plF
  rw [List.zipIdx_append, List.foldl_append]
  simp
theorem plR_bd (x : T) (p : Nat) (r : List T) (s : Int × Int) : s.2 ≤ (plR x p r s).2 ∧ (plR x p r s).2 ≤ s.2 + r.length := by
  unfold plR
  induction r generalizing s with
  | nil => simp
  | cons y r ih =>
    simp only [List.foldl_cons, List.length_cons]
    have h := ih (if y = x then ((p : Int), s.2 + 1) else s)
    split at h <;> rename_i hy
    · rw [if_pos hy]
      dsimp only at h ⊢
      omega
    · rw [if_neg hy]
      omega

set_option maxHeartbeats 2000000 in
set_option maxRecDepth 100000 in
theorem place_any (w : World) (A : Option Addr) (c : Nat) (rows : List TRow) (x : T) (h : RT w A rows) (hn : rows.length ≤ 1000) (hr : ∀ r ∈ rows, r.xs.length ≤ 1000) :
    Calls Tryz.prog 24 #[.slice A rows.length c, encStr x] w fun e w' => e = .returned (.int .i64 (placeV (rows.map (·.xs)) x)) ∧ w = w' := by
  have H := Lib.hid h
  have HR := Lib.hid hr
  clear h hr
  obtain ⟨n, hN⟩ : ∃ n, Hid (n = rows.length) := ⟨_, Lib.hid rfl⟩
  rw [← hN.out] at hn ⊢
  have hF0 : Hid (plF x ((rows.map (·.xs)).take 0) = (-1, 0)) := Lib.hid rfl
  have hV : Hid (placeV (rows.map (·.xs)) x = if (plF x (rows.map (·.xs))).2 = 1 then (plF x (rows.map (·.xs))).1 else -1) := Lib.hid rfl
  generalize placeV (rows.map (·.xs)) x = V at *
  unfold encStr
  go_enter Tryz.func24, Tryz.ntmps24
  go_wp2_with fail
  go_loopw [7, 5, 6] (fun i a c wr => ∃ (k : Nat) (at_ m : Int), k ≤ n ∧ 0 ≤ m ∧ m ≤ k * 1000 ∧ i = .int .i64 k ∧ a = .int .i64 at_ ∧ c = .int .i64 m ∧ Hid (plF x ((rows.map (·.xs)).take k) = (at_, m)) ∧ w = wr) (fun i _ _ _ => n - (intOf i).toNat)
  case atStart => exact ⟨0, -1, 0, by omega, by omega, by omega, rfl, rfl, rfl, hF0, rfl⟩
  case round =>
    obtain ⟨k, at_, m, hk, hm0, hm1, rfl, rfl, rfl, hF, rfl⟩ := hrel
    clear hF0
    by_cases hkn : k < n
    · have d1 : decide ((k : Int) < (n : Int)) = true := decide_eq_true (by omega)
      have hkI : (k : Int) < (n : Int) := by omega
      have hkl : k < rows.length := by rw [← hN.out]; exact hkn
      obtain ⟨g, off, rfl, hg, cr⟩ := trow_at H.out.hd hkl
      have hrd := Lib.hid (H.out.rw_ _ (List.getElem_mem hkl))
      have hrl := HR.out _ (List.getElem_mem hkl)
      have htk : Hid (plF x ((rows.map (·.xs)).take (k + 1)) = plR x k rows[k].xs (at_, m)) := Lib.hid (by
        have h1 : min k (rows.map (·.xs)).length = k := by rw [List.length_map]; omega
        rw [List.take_succ_eq_append_getElem (by rw [List.length_map]; exact hkl), plF_snoc, hF.out, List.getElem_map, List.length_take, h1])
      generalize rows[k] = r at *
      obtain ⟨rA, rc, rx⟩ := r
      unfold hdT at cr
      dsimp only at cr hrd hrl htk
      obtain ⟨rn, hRN⟩ : ∃ rn, Hid (rn = rx.length) := ⟨_, Lib.hid rfl⟩
      rw [← hRN.out] at cr hrl
      have hJ0 : Hid (plR x k (rx.take 0) (at_, m) = (at_, m)) := Lib.hid rfl
      clear hF
      go_wp2_with fail
      go_loopw [8, 5, 6] (fun i a c wr => ∃ (j : Nat) (at2 m2 : Int), j ≤ rn ∧ 0 ≤ m2 ∧ m2 ≤ k * 1000 + j ∧ i = .int .i64 j ∧ a = .int .i64 at2 ∧ c = .int .i64 m2 ∧ Hid (plR x k (rx.take j) (at_, m) = (at2, m2)) ∧ w = wr) (fun i _ _ _ => rn - (intOf i).toNat)
      case atStart => exact ⟨0, at_, m, by omega, by omega, by omega, rfl, rfl, rfl, hJ0, rfl⟩
      case round =>
        obtain ⟨j, at2, m2, hj, hm20, hm21, rfl, rfl, rfl, hJ, rfl⟩ := hrel
        clear hJ0
        by_cases hjn : j < rn
        · have d2 : decide ((j : Int) < (rn : Int)) = true := decide_eq_true (by omega)
          have hjI : (j : Int) < (rn : Int) := by omega
          have hjl : j < rx.length := by rw [← hRN.out]; exact hjn
          obtain ⟨g2, o2, rfl, hg2, cx⟩ := rd_at hrd.out hjl
          have hst : Hid (plR x k (rx.take (j + 1)) (at_, m) = if rx[j] = x then ((k : Int), m2 + 1) else (at2, m2)) := Lib.hid (by rw [List.take_succ_eq_append_getElem hjl, plR_snoc, hJ.out])
          clear hJ
          generalize rx[j] = y at *
          unfold encStr at cx
          rcases hq : (y == x) with _ | _
          rotate_left
          · have hst2 : Hid (plR x k (rx.take (j + 1)) (at_, m) = ((k : Int), m2 + 1)) := Lib.hid (by rw [hst.out, if_pos (by simpa using hq)])
            clear hst
            go_wp2_with fail
            go_roundw
            case rel => exact ⟨j + 1, _, _, by omega, by omega, by omega, by go_num, rfl, rfl, hst2, trivial⟩
            case measure => simp [intOf]; omega
          · have hst2 : Hid (plR x k (rx.take (j + 1)) (at_, m) = (at2, m2)) := Lib.hid (by rw [hst.out, if_neg (by simpa using hq)])
            clear hst
            go_wp2_with fail
            go_roundw
            case rel => exact ⟨j + 1, _, _, by omega, by omega, by omega, by go_num, rfl, rfl, hst2, trivial⟩
            case measure => simp [intOf]; omega
        · obtain rfl : j = rn := by omega
          have d2 : decide ((j : Int) < (j : Int)) = false := decide_eq_false (by omega)
          have hF2 : Hid (plF x ((rows.map (·.xs)).take (k + 1)) = (at2, m2)) := Lib.hid (by
            rw [htk.out, ← hJ.out, List.take_of_length_le (by rw [hRN.out]; exact Nat.le_refl _)])
          clear hJ
          go_wp2_with fail
          go_roundw
          case rel => exact ⟨k + 1, at2, m2, by omega, by omega, by omega, by go_num, rfl, rfl, hF2, trivial⟩
          case measure => simp [intOf]; omega
    · obtain rfl : k = n := by omega
      have d1 : decide ((k : Int) < (k : Int)) = false := decide_eq_false (by omega)
      have hF2 : Hid (plF x (rows.map (·.xs)) = (at_, m)) := Lib.hid (by
        have := hF.out
        rwa [List.take_of_length_le (by rw [List.length_map, hN.out]; exact Nat.le_refl _)] at this)
      clear hF
      by_cases h1 : m = 1
      · have hV2 : Hid (V = at_) := Lib.hid (by rw [hV.out, hF2.out, if_pos h1])
        subst h1
        go_wp2_with fail
        go_ret
        exact ⟨congrArg (fun z => Ending.returned (.int .i64 z)) hV2.out.symm, rfl⟩
      · have hV2 : Hid (V = -1) := Lib.hid (by rw [hV.out, hF2.out, if_neg h1])
        have d3 : (m == 1) = false := by simpa using h1
        go_wp2_with fail
        go_ret
        exact ⟨congrArg (fun z => Ending.returned (.int .i64 z)) hV2.out.symm, rfl⟩
end Go.Proofs.YtohdcmmkbblhkaaGreatDoor.qy

/-
  query: the little program of works(): plain.
-/
set_option linter.all false
namespace Go.Proofs.YtohdcmmkbblhkaaGreatDoor.qy
open Go.Proofs.YtohdcmmkbblhkaaGreatDoor.inn (rsS mem_rsS)

def wkE : List Ed := [([102], [103]), ([103], [104]), ([103], [102])]
def wkP : T := [102, 46, 112]
def wkQ : T := [102, 46, 113]
def wkX : T := [120, 43, 48]
def wkF : List Fa := [⟨wkP, [[103, 40, 41], wkX]⟩, ⟨wkQ, [wkX]⟩]

theorem wk_order : orderL wkE = [[[104]], [[102], [103]]] := by kernel_rfl
theorem wk_alias : aliasB wkF wkP wkQ = true := by kernel_rfl
theorem wk_callees : calleesL wkF wkP = [[103]] := by kernel_rfl
theorem wk_holders : holdersL wkF wkX = [wkP, wkQ] := by kernel_rfl

theorem wk_rs : RS wkE [[102]] [[102], [103], [104]] := by
  refine ⟨by decide, by decide, fun X h1 h2 x hx => ?_⟩
  have f : X [102] := h1 _ (by simp)
  have g : X [103] := h2 ([102], [103]) (by simp [wkE]) f
  have h : X [104] := h2 ([103], [104]) (by simp [wkE]) g
  simp only [List.mem_cons, List.not_mem_nil, or_false] at hx
  rcases hx with rfl | rfl | rfl
  · exact f
  · exact g
  · exact h
theorem wk_reach {R : List T} (h : RS wkE [[102]] R) (hp : R.Pairwise (· < ·)) : R = [[102], [103], [104]] := h.eq wk_rs hp (by decide)
end Go.Proofs.YtohdcmmkbblhkaaGreatDoor.qy

/-
  query: who may be called at a site: both sides.
-/
set_option linter.all false
namespace Go.Proofs.YtohdcmmkbblhkaaGreatDoor.qy
open Go.RowKit Go.Sort Go.Shelf Go.Proofs.YtohdcmmkbblhkaaGreatDoor.mem Go.Proofs.YtohdcmmkbblhkaaGreatDoor.wd
open Go.Proofs.YtohdcmmkbblhkaaGreatDoor.inn (rsS mem_rsS)
open Go.Proofs.YtohdcmmkbblhkaaGreatDoor.nm (readB cand Tab tab_below held)

theorem bs_size (p : T) : (bs p).size = p.length := by simp [bs, ByteArray.size]
theorem bs_of (b : ByteArray) : b = bs b.data.toList := by cases b; simp [bs]

/-- what a place is read as -/
theorem read_cases (p : T) : (isFn p = true ∧ readB (bs p) = true ∧ ∃ copy name n cell, cand (bs p) = ⟨4, bs (fnT p), copy, name, n, cell⟩) ∨
    (isFn p = false ∧ readB (bs p) = true ∧ ∃ kind fn copy name n cell, cand (bs p) = ⟨kind, fn, copy, name, n, cell⟩ ∧ kind ≠ 4) ∨ (isFn p = false ∧ readB (bs p) = false) := by
  unfold isFn fnT
  rcases hr : readB (bs p) with _ | _
  · exact Or.inr (Or.inr ⟨rfl, rfl⟩)
  · generalize cand (bs p) = d
    obtain ⟨kind, fn, copy, name, n, cell⟩ := d
    dsimp only
    by_cases h : kind = 4
    · subst h
      exact Or.inl ⟨by simp, rfl, copy, name, n, cell, by rw [← bs_of]⟩
    · exact Or.inr (Or.inl ⟨by simp [h], rfl, kind, fn, copy, name, n, cell, rfl, h⟩)

theorem fns_take {l : List T} {k : Nat} (hk : k < l.length) : fnsL (l.take (k + 1)) = fnsL (l.take k) ++ (if isFn l[k] = true then [fnT l[k]] else []) := by
  rw [List.take_succ_eq_append_getElem hk, fnsL_snoc]

set_option maxHeartbeats 2000000 in
set_option maxRecDepth 100000 in
theorem callees_any (w : World) (A : Option Addr) (cap : Nat) (l : List MF) (s : T) (h : FacM w A l) (hs : ∀ f ∈ l, f.f.locs.length ≤ 1000000) (htab : Tab w) :
    Calls Tryz.prog 11 #[.slice A l.length cap, encStr s] w (LP w (calleesL (facs l) s)) := by
  have HO := Lib.hid (of_any w A cap l s h hs)
  have hfl : ∀ f ∈ facs l, f.locs.length ≤ 1000000 := fun f hf => by
    unfold facs at hf
    obtain ⟨x, hx, rfl⟩ := List.mem_map.1 hf
    exact hs x hx
  have hla := Lib.hid (ofL_len hfl s)
  have hT : Hid (∀ p ∈ ofL (facs l) s, p.length ≤ maxLen) := Lib.hid (fun p hp => by
    obtain ⟨f, hf, hp⟩ := ofL_mem hp
    unfold facs at hf
    obtain ⟨x, hx, rfl⟩ := List.mem_map.1 hf
    exact (h.ok x hx).t p hp)
  have hR0 : Hid (calleesL (facs l) s = rsS (fnsL (ofL (facs l) s))) := Lib.hid rfl
  have HRd : Hid (∀ p ∈ ofL (facs l) s, ∀ W, Below w.heap.size w W → readB (bs p) = true → Calls Tryz.prog 31 #[encStr p] W (nm.ReadYes (bs p) W)) := Lib.hid (fun p hp W hb hr => nm.read_yes held (bs p) W (by rw [bs_size]; exact hT.out p hp) (tab_below htab hb) hr)
  have HRn : Hid (∀ p ∈ ofL (facs l) s, ∀ W, Below w.heap.size w W → readB (bs p) = false → Calls Tryz.prog 31 #[encStr p] W (nm.ReadNo W)) := Lib.hid (fun p hp W hb hr => nm.read_no held (bs p) W (by rw [bs_size]; exact hT.out p hp) (tab_below htab hb) hr)
  obtain ⟨R, hR⟩ : ∃ R, Hid (R = calleesL (facs l) s) := ⟨_, Lib.hid rfl⟩
  rw [← hR.out]
  rw [← hR.out] at hR0
  generalize ofL (facs l) s = la at *
  unfold LP at HO ⊢
  unfold nm.ReadYes at HRd
  unfold nm.ReadNo at HRn
  clear h hs hfl htab hT hR
  obtain ⟨i0, hi0, hz0, hz1, hz2⟩ := info_parts inn.info_str
  have Hi := Lib.hid hi0
  have Hz0 := Lib.hid hz0
  have Hz1 := Lib.hid hz1
  have Hz2 := Lib.hid hz2
  clear hi0 hz0 hz1 hz2
  generalize l.length = nl at *
  go_enter Tryz.func11, Tryz.ntmps11
  go_wp2_with fail
  refine HO.out.mono ?_
  rintro e w1 ⟨B1, c1, rfl, r1, b1⟩
  have hr1 := Lib.hid r1
  have hb1 := Lib.hid b1
  clear HO r1 b1
  have hnil : Hid (TL w1 w1 none 0 (fnsL (la.take 0))) := Lib.hid (TL.nil (Below.refl _ _))
  obtain ⟨n, hN⟩ : ∃ n1, Hid (n1 = la.length) := ⟨_, Lib.hid rfl⟩
  rw [← hN.out]
  have hn1 : n ≤ 1000000 := by rw [hN.out]; exact hla.out
  go_wp2_with fail
  go_loopw [5, 14] (fun v i wr => ∃ (k : Nat) (A : Option Addr) (cap : Nat), k ≤ n ∧ i = .int .i64 k ∧ v = .slice A (fnsL (la.take k)).length cap ∧ Hid (TL w1 wr A cap (fnsL (la.take k)))) (fun _ i _ => n - (intOf i).toNat)
  case atStart => exact ⟨0, none, 0, by omega, rfl, rfl, hnil⟩
  case round =>
    obtain ⟨k, B, cp, hk, rfl, rfl, HT⟩ := hrel
    clear hnil
    rename World => wr
    by_cases hkl : k < n
    · have e1 : decide ((k : Int) < (n : Int)) = true := decide_eq_true (by omega)
      have hkx : k < la.length := by rw [← hN.out]; exact hkl
      obtain ⟨g, off, rfl, hg, c0⟩ := rd_at (hr1.out.below HT.out.fr) hkx
      have hnx := Lib.hid (fns_take hkx)
      have hlen : (fnsL (la.take k)).length ≤ 1000000 := by
        have h1 := fnsL_len (la.take k)
        rw [List.length_take] at h1
        omega
      obtain ⟨l2, hl2⟩ : ∃ x, Hid (x = fnsL (la.take (k + 1))) := ⟨_, Lib.hid rfl⟩
      rw [← hl2.out] at hnx
      have HY := Lib.hid (HRd.out la[k] (List.getElem_mem hkx) wr (hb1.out.trans (HT.out.fr.mono hb1.out.size)))
      have HN := Lib.hid (HRn.out la[k] (List.getElem_mem hkx) wr (hb1.out.trans (HT.out.fr.mono hb1.out.size)))
      generalize fnsL (la.take k) = l1 at *
      generalize la[k] = p at *
      rcases read_cases p with ⟨h1, h2, copy, name, no, cell, hc⟩ | ⟨h1, h2, kind, fn, copy, name, no, cell, hc, hk4⟩ | ⟨h1, h2⟩
      · have HK := Lib.hid (HY.out h2)
        rw [hc] at HK
        unfold nm.Nd.val nm.Nd.cells at HK
        dsimp only at HK
        have hnx2 : Hid (l2 = l1 ++ [fnT p]) := Lib.hid (by rw [hnx.out, if_pos h1])
        have hl4 : Hid (l1.length + 1 = l2.length) := Lib.hid (by rw [hnx2.out, List.length_append]; rfl)
        clear HY HN h1 h2 hc hnx
        generalize fnT p = fp at *
        go_wp2_with fail
        refine HK.out.mono ?_
        rintro e w4 ⟨rfl, b4⟩
        have HT4 := Lib.hid (HT.out.on b4)
        clear b4 HK HT c0
        have HT5 := Lib.hid (HT4.out.alloc (.cells #[.int .i64 4, .string (bs fp), .int .i64 copy, .string name, .int .i64 no, .int .i64 cell] 55))
        have X5 := Box.new w4 55 #[.int .i64 4, .string (bs fp), .int .i64 copy, .string name, .int .i64 no, .int .i64 cell]
        have b0 := X5.cell 0
        have b1 := X5.cell 1
        simp only [List.getElem?_toArray, List.getElem?_cons_zero, List.getElem?_cons_succ] at b0 b1
        clear X5 HT4
        go_upto_region 7 with fail
        generalize hW : w4.alloc (.cells #[.int .i64 4, .string (bs fp), .int .i64 copy, .string name, .int .i64 no, .int .i64 cell] 55) = W at *
        clear hW
        generalize w4.heap.size = bm at *
        go_wp2_with (at_builtin; refine wpList_push (u := encStr fp) rfl _ _ _ rfl (HT5.out.seg.alloc _) (by rw [List.length_map]) Tryz.underlying26 Hi.out Hz0.out Hz1.out Hz2.out rfl rfl rfl (new_cell _ _ _) rfl (by omega) (by omega) ?_; intro A7 cap7 w7 hs7 f7 hf7)
        have HT7 := Lib.hid (HT5.out.push (s := fp) hs7 f7 hf7)
        rw [← hnx2.out] at HT7
        go_roundw
        case rel => exact ⟨k + 1, A7, cap7, by omega, by go_num, by rw [hl4.out, hl2.out], by rw [hl2.out] at HT7; exact HT7⟩
        case measure => simp [intOf]; omega
      · have HK := Lib.hid (HY.out h2)
        rw [hc] at HK
        unfold nm.Nd.val nm.Nd.cells at HK
        dsimp only at HK
        have hnx2 : Hid (l2 = l1) := Lib.hid (by rw [hnx.out, h1, if_neg (by simp), List.append_nil])
        have hl4 : Hid (l1.length = l2.length) := Lib.hid (by rw [hnx2.out])
        have d4 : (kind == 4) = false := by simpa using hk4
        clear HY HN h1 h2 hc hnx hk4
        go_wp2_with fail
        refine HK.out.mono ?_
        rintro e w4 ⟨rfl, b4⟩
        have HT5 := Lib.hid ((HT.out.on b4).alloc (.cells #[.int .i64 kind, .string fn, .int .i64 copy, .string name, .int .i64 no, .int .i64 cell] 55))
        have X5 := Box.new w4 55 #[.int .i64 kind, .string fn, .int .i64 copy, .string name, .int .i64 no, .int .i64 cell]
        have b0 := X5.cell 0
        simp only [List.getElem?_toArray, List.getElem?_cons_zero, List.getElem?_cons_succ] at b0
        clear X5 b4 HK HT c0
        rw [← hnx2.out] at HT5
        go_wp2_with fail
        go_roundw
        case rel => exact ⟨k + 1, B, cp, by omega, by go_num, by rw [hl4.out, hl2.out], by rw [hl2.out] at HT5; exact HT5⟩
        case measure => simp [intOf]; omega
      · have HK := Lib.hid (HN.out h2)
        have hnx2 : Hid (l2 = l1) := Lib.hid (by rw [hnx.out, h1, if_neg (by simp), List.append_nil])
        have hl4 : Hid (l1.length = l2.length) := Lib.hid (by rw [hnx2.out])
        clear HY HN h1 h2 hnx
        go_wp2_with fail
        refine HK.out.mono ?_
        rintro e w4 ⟨rfl, b4⟩
        have HT5 := Lib.hid ((HT.out.on b4).alloc (.cells #[.int .i64 0, .string ⟨#[]⟩, .int .i64 0, .string ⟨#[]⟩, .int .i64 0, .int .i64 0] 55))
        clear b4 HK HT c0
        rw [← hnx2.out] at HT5
        go_wp2_with fail
        go_roundw
        case rel => exact ⟨k + 1, B, cp, by omega, by go_num, by rw [hl4.out, hl2.out], by rw [hl2.out] at HT5; exact HT5⟩
        case measure => simp [intOf]; omega
    · obtain rfl : k = n := by omega
      have e1 : decide ((k : Int) < (k : Int)) = false := decide_eq_false (by omega)
      have hall : Hid (la.take k = la) := Lib.hid (List.take_of_length_le (by rw [hN.out]; exact Nat.le_refl _))
      rw [hall.out] at HT
      have hll : Hid ((fnsL (la.take k)).length = (fnsL la).length) := Lib.hid (by rw [hall.out])
      have hlen : (fnsL la).length ≤ 1000000 := by
        have h1 := fnsL_len la
        rw [← hN.out] at h1
        omega
      have HK := Lib.hid (sorted_any wr B cp (fnsL la) HT.out.rd hlen)
      have hfr := Lib.hid (hb1.out.trans (HT.out.fr.mono hb1.out.size))
      unfold LP at HK
      rw [show rsS (fnsL la) = R from hR0.out.symm, ← hll.out] at HK
      clear HT hall hR0 hll
      generalize fnsL (la.take k) = l1 at *
      go_wp2_with fail
      refine HK.out.mono ?_
      rintro e w4 ⟨A4, c4, rfl, r4, b4⟩
      have fin := Lib.hid (And.intro r4 (hfr.out.trans (b4.mono hfr.out.size)))
      clear r4 b4 HK
      go_wp2_with fail
      go_ret
      exact ⟨A4, c4, rfl, fin.out.1, fin.out.2⟩

set_option maxHeartbeats 2000000 in
set_option maxRecDepth 100000 in
theorem rcallees_any (w : World) (A : Option Addr) (cap : Nat) (l : List MF) (s : T) (h : FacM w A l) (hs : ∀ f ∈ l, f.f.locs.length ≤ 1000000) :
    Calls Tryz.prog 12 #[.slice A l.length cap, encStr s] w (LP w (calleesL (facs l) s)) := by
  have HO := Lib.hid (rof_any w A cap l s h hs)
  have hfl : ∀ f ∈ facs l, f.locs.length ≤ 1000000 := fun f hf => by
    unfold facs at hf
    obtain ⟨x, hx, rfl⟩ := List.mem_map.1 hf
    exact hs x hx
  have hla := Lib.hid (ofL_len hfl s)
  have hT : Hid (∀ p ∈ ofL (facs l) s, p.length ≤ maxLen) := Lib.hid (fun p hp => by
    obtain ⟨f, hf, hp⟩ := ofL_mem hp
    unfold facs at hf
    obtain ⟨x, hx, rfl⟩ := List.mem_map.1 hf
    exact (h.ok x hx).t p hp)
  have hR0 : Hid (calleesL (facs l) s = rsS (fnsL (ofL (facs l) s))) := Lib.hid rfl
  have HRd : Hid (∀ p ∈ ofL (facs l) s, ∀ W, Below w.heap.size w W → readB (bs p) = true → Calls Tryz.prog 32 #[encStr p] W (nm.ReadYes (bs p) W)) := Lib.hid (fun p hp W hb hr => nm.rread_yes (bs p) W (by rw [bs_size]; exact hT.out p hp) hr)
  have HRn : Hid (∀ p ∈ ofL (facs l) s, ∀ W, Below w.heap.size w W → readB (bs p) = false → Calls Tryz.prog 32 #[encStr p] W (nm.ReadNo W)) := Lib.hid (fun p hp W hb hr => nm.rread_no (bs p) W (by rw [bs_size]; exact hT.out p hp) hr)
  obtain ⟨R, hR⟩ : ∃ R, Hid (R = calleesL (facs l) s) := ⟨_, Lib.hid rfl⟩
  rw [← hR.out]
  rw [← hR.out] at hR0
  generalize ofL (facs l) s = la at *
  unfold LP at HO ⊢
  unfold nm.ReadYes at HRd
  unfold nm.ReadNo at HRn
  clear h hs hfl hT hR
  generalize l.length = nl at *
  go_enter Tryz.func12, Tryz.ntmps12
  go_wp2_with fail
  refine HO.out.mono ?_
  rintro e w1 ⟨B1, c1, rfl, r1, b1⟩
  have hr1 := Lib.hid r1
  have hb1 := Lib.hid b1
  clear HO r1 b1
  have hnil : Hid (Seg w1 9 none 0 ((rsS (fnsL (la.take 0))).map encStr) ∧ Below w1.heap.size w1 w1) := Lib.hid ⟨Seg.nil _ _, Below.refl _ _⟩
  obtain ⟨n, hN⟩ : ∃ n1, Hid (n1 = la.length) := ⟨_, Lib.hid rfl⟩
  rw [← hN.out]
  have hn1 : n ≤ 1000000 := by rw [hN.out]; exact hla.out
  go_wp2_with fail
  go_loopw [5, 7] (fun v i wr => ∃ (k : Nat) (A : Option Addr) (cap : Nat), k ≤ n ∧ i = .int .i64 k ∧ v = .slice A (rsS (fnsL (la.take k))).length cap ∧ Hid (Seg wr 9 A cap ((rsS (fnsL (la.take k))).map encStr) ∧ Below w1.heap.size w1 wr)) (fun _ i _ => n - (intOf i).toNat)
  case atStart => exact ⟨0, none, 0, by omega, rfl, rfl, hnil⟩
  case round =>
    obtain ⟨k, B, cp, hk, rfl, rfl, HT⟩ := hrel
    clear hnil
    rename World => wr
    by_cases hkl : k < n
    · have e1 : decide ((k : Int) < (n : Int)) = true := decide_eq_true (by omega)
      have hkx : k < la.length := by rw [← hN.out]; exact hkl
      obtain ⟨g, off, rfl, hg, c0⟩ := rd_at (hr1.out.below HT.out.2) hkx
      have hnx := Lib.hid (fns_take hkx)
      have hlen : Hid ((rsS (fnsL (la.take k))).length ≤ 1000000) := Lib.hid (by
        have h1 := fnsL_len (la.take k)
        have h2 := inn.rs_len (fnsL (la.take k))
        rw [List.length_take] at h1
        omega)
      have hnx1 : Hid (rsS (fnsL (la.take (k + 1))) = if isFn la[k] = true then inn.intoS (rsS (fnsL (la.take k))) (fnT la[k]) else rsS (fnsL (la.take k))) := Lib.hid (by
        rw [hnx.out]
        split
        · exact rs_snoc _ _
        · rw [List.append_nil])
      obtain ⟨l2, hl2⟩ : ∃ x, Hid (x = rsS (fnsL (la.take (k + 1)))) := ⟨_, Lib.hid rfl⟩
      rw [← hl2.out] at hnx1
      clear hnx
      have HY := Lib.hid (HRd.out la[k] (List.getElem_mem hkx) wr (hb1.out.trans (HT.out.2.mono hb1.out.size)))
      have HN := Lib.hid (HRn.out la[k] (List.getElem_mem hkx) wr (hb1.out.trans (HT.out.2.mono hb1.out.size)))
      generalize rsS (fnsL (la.take k)) = l1 at *
      generalize la[k] = p at *
      rcases read_cases p with ⟨h1, h2, copy, name, no, cell, hc⟩ | ⟨h1, h2, kind, fn, copy, name, no, cell, hc, hk4⟩ | ⟨h1, h2⟩
      · have HK := Lib.hid (HY.out h2)
        rw [hc] at HK
        unfold nm.Nd.val nm.Nd.cells at HK
        dsimp only at HK
        have hnx2 : Hid (l2 = inn.intoS l1 (fnT p)) := Lib.hid (by rw [hnx1.out, if_pos h1])
        clear HY HN h1 h2 hc hnx1
        generalize fnT p = fp at *
        go_wp2_with fail
        refine HK.out.mono ?_
        rintro e w4 ⟨rfl, b4⟩
        have HB5 := Lib.hid (b4.trans (((Fr.refl [] w4).alloc (.cells #[.int .i64 4, .string (bs fp), .int .i64 copy, .string name, .int .i64 no, .int .i64 cell] 59)).all.mono b4.size))
        have HT5 : Hid (Seg _ 9 B cp (l1.map encStr) ∧ Below w1.heap.size w1 _) := Lib.hid ⟨HT.out.1.kept (Fr.of_below HB5.out []) (by simp), HT.out.2.trans (HB5.out.mono HT.out.2.size)⟩
        clear b4 HK HT c0 HB5
        have X5 := Box.new w4 59 #[.int .i64 4, .string (bs fp), .int .i64 copy, .string name, .int .i64 no, .int .i64 cell]
        have b0 := X5.cell 0
        have b1 := X5.cell 1
        simp only [List.getElem?_toArray, List.getElem?_cons_zero, List.getElem?_cons_succ] at b0 b1
        clear X5
        go_upto_region 7 with fail
        generalize hW : w4.alloc (.cells #[.int .i64 4, .string (bs fp), .int .i64 copy, .string name, .int .i64 no, .int .i64 cell] 59) = W at *
        clear hW
        generalize w4.heap.size = bm at *
        have HI := Lib.hid (inn.into_any W B cp l1 fp HT5.out.1 hlen.out)
        have hfr := Lib.hid HT5.out.2
        unfold inn.IPost at HI
        rw [← hnx2.out] at HI
        clear HT5 hnx2
        go_wp2_with fail
        refine HI.out.mono ?_
        rintro e w7 ⟨A7, cap7, rfl, s7, b7⟩
        have HT7 : Hid (Seg w7 9 A7 cap7 (l2.map encStr) ∧ Below w1.heap.size w1 w7) := Lib.hid ⟨s7, hfr.out.trans (b7.mono hfr.out.size)⟩
        clear s7 b7 HI hfr
        go_wp2_with fail
        go_roundw
        case rel => exact ⟨k + 1, A7, cap7, by omega, by go_num, by rw [hl2.out], by rw [hl2.out] at HT7; exact HT7⟩
        case measure => simp [intOf]; omega
      · have HK := Lib.hid (HY.out h2)
        rw [hc] at HK
        unfold nm.Nd.val nm.Nd.cells at HK
        dsimp only at HK
        have hnx2 : Hid (l2 = l1) := Lib.hid (by rw [hnx1.out, h1, if_neg (by simp)])
        have hl4 : Hid (l1.length = l2.length) := Lib.hid (by rw [hnx2.out])
        have d4 : (kind == 4) = false := by simpa using hk4
        clear HY HN h1 h2 hc hnx1 hk4
        go_wp2_with fail
        refine HK.out.mono ?_
        rintro e w4 ⟨rfl, b4⟩
        have HB5 := Lib.hid (b4.trans (((Fr.refl [] w4).alloc (.cells #[.int .i64 kind, .string fn, .int .i64 copy, .string name, .int .i64 no, .int .i64 cell] 59)).all.mono b4.size))
        have HT5 : Hid (Seg _ 9 B cp (l1.map encStr) ∧ Below w1.heap.size w1 _) := Lib.hid ⟨HT.out.1.kept (Fr.of_below HB5.out []) (by simp), HT.out.2.trans (HB5.out.mono HT.out.2.size)⟩
        have X5 := Box.new w4 59 #[.int .i64 kind, .string fn, .int .i64 copy, .string name, .int .i64 no, .int .i64 cell]
        have b0 := X5.cell 0
        simp only [List.getElem?_toArray, List.getElem?_cons_zero, List.getElem?_cons_succ] at b0
        clear X5 b4 HK HT c0 HB5
        rw [← hnx2.out] at HT5
        go_wp2_with fail
        go_roundw
        case rel => exact ⟨k + 1, B, cp, by omega, by go_num, by rw [hl4.out, hl2.out], by rw [hl2.out] at HT5; exact HT5⟩
        case measure => simp [intOf]; omega
      · have HK := Lib.hid (HN.out h2)
        have hnx2 : Hid (l2 = l1) := Lib.hid (by rw [hnx1.out, h1, if_neg (by simp)])
        have hl4 : Hid (l1.length = l2.length) := Lib.hid (by rw [hnx2.out])
        clear HY HN h1 h2 hnx1
        go_wp2_with fail
        refine HK.out.mono ?_
        rintro e w4 ⟨rfl, b4⟩
        have HB5 := Lib.hid (b4.trans (((Fr.refl [] w4).alloc (.cells #[.int .i64 0, .string ⟨#[]⟩, .int .i64 0, .string ⟨#[]⟩, .int .i64 0, .int .i64 0] 59)).all.mono b4.size))
        have HT5 : Hid (Seg _ 9 B cp (l1.map encStr) ∧ Below w1.heap.size w1 _) := Lib.hid ⟨HT.out.1.kept (Fr.of_below HB5.out []) (by simp), HT.out.2.trans (HB5.out.mono HT.out.2.size)⟩
        clear b4 HK HT c0 HB5
        rw [← hnx2.out] at HT5
        go_wp2_with fail
        go_roundw
        case rel => exact ⟨k + 1, B, cp, by omega, by go_num, by rw [hl4.out, hl2.out], by rw [hl2.out] at HT5; exact HT5⟩
        case measure => simp [intOf]; omega
    · obtain rfl : k = n := by omega
      have e1 : decide ((k : Int) < (k : Int)) = false := decide_eq_false (by omega)
      have hall : Hid (rsS (fnsL (la.take k)) = R) := Lib.hid (by rw [hR0.out, List.take_of_length_le (by rw [hN.out]; exact Nat.le_refl _)])
      rw [hall.out] at HT
      have hll : Hid ((rsS (fnsL (la.take k))).length = R.length) := Lib.hid (by rw [hall.out])
      go_wp2_with fail
      go_ret
      exact ⟨B, cp, congrArg (fun z => Ending.returned (.slice B z cp)) hll.out, HT.out.1.rd, hb1.out.trans (HT.out.2.mono hb1.out.size)⟩
end Go.Proofs.YtohdcmmkbblhkaaGreatDoor.qy

/-
  query: the law of facts, given works().
-/
set_option linter.all false
namespace Go.Proofs.YtohdcmmkbblhkaaGreatDoor.qy
open Go.RowKit Go.Sort Go.Shelf Go.Proofs.YtohdcmmkbblhkaaGreatDoor.mem Go.Proofs.YtohdcmmkbblhkaaGreatDoor.wd
open Go.Proofs.YtohdcmmkbblhkaaGreatDoor.inn (rsS mem_rsS)
open Go.Proofs.YtohdcmmkbblhkaaGreatDoor.nm (Tab tab_below)

theorem callees_len {l : List MF} {n : Nat} (h : ∀ f ∈ l, f.f.locs.length ≤ n) (s : T) : (calleesL (facs l) s).length ≤ n := by
  unfold calleesL
  refine Nat.le_trans (inn.rs_len _) (Nat.le_trans (fnsL_len _) (ofL_len (fun f hf => ?_) s))
  unfold facs at hf
  obtain ⟨x, hx, rfl⟩ := List.mem_map.1 hf
  exact h x hx
theorem holders_len (l : List MF) (p : T) : (holdersL (facs l) p).length ≤ l.length := by
  unfold holdersL
  refine Nat.le_trans (inn.rs_len _) (Nat.le_trans (holdL_len _ p) ?_)
  rw [facs_len]
  exact Nat.le_refl _

set_option maxHeartbeats 4000000 in
set_option maxRecDepth 100000 in
theorem law_facts_of (w : World) (A : Option Addr) (cap : Nat) (l : List MF) (a b : T) (h : FacM w A l) (hbig : ∀ x ∈ l, FBig x) (htab : Tab w)
    (hwk : ∀ W, Below w.heap.size w W → Calls Tryz.prog 15 #[] W (BP true W)) :
    Calls Tryz.prog 3 #[.slice A l.length cap, encStr a, encStr b] w (BP true w) := by
  have HG := Lib.hid (greatF_any w A cap l h hbig)
  have HF := Lib.hid (fun W (hb : Below w.heap.size w W) => h.below hb)
  have HT := Lib.hid (fun W (hb : Below w.heap.size w W) => tab_below htab hb)
  have HW := Lib.hid hwk
  have hla : Hid (a.length ≤ a.length) := Lib.hid (Nat.le_refl _)
  clear h hbig htab hwk
  unfold GFPost at HG
  obtain ⟨n, hN⟩ : ∃ n, Hid (n = l.length) := ⟨_, Lib.hid rfl⟩
  rw [← hN.out] at HG ⊢
  unfold encStr
  go_enter Tryz.func3, Tryz.ntmps3
  go_wp2_with fail
  refine HG.out.mono ?_
  rintro e w1 ⟨r, rfl, b1, hr⟩
  rcases r with _ | _
  · obtain ⟨hl1, hl2⟩ := hr rfl
    have hl3 : ∀ f ∈ l, f.f.locs.length ≤ 1000000 := fun f hf => Nat.le_trans (hl2 f hf) (by omega)
    by_cases ha : 200 < a.length
    · have da : decide ((200 : Int) < (a.length : Int)) = true := decide_eq_true (by omega)
      have B1 := Lib.hid b1
      clear hr hl2 hl3
      go_wp2_with fail
      go_ret
      exact ⟨rfl, B1.out⟩
    · have da : decide ((200 : Int) < (a.length : Int)) = false := decide_eq_false (by omega)
      by_cases hb : 200 < b.length
      · have db : decide ((200 : Int) < (b.length : Int)) = true := decide_eq_true (by omega)
        have B1 := Lib.hid b1
        clear hr hl2 hl3
        go_wp2_with fail
        go_ret
        exact ⟨rfl, B1.out⟩
      · have db : decide ((200 : Int) < (b.length : Int)) = false := decide_eq_false (by omega)
        have K1 := Lib.hid (fun W (hb : Below w.heap.size w W) => alias_any W A cap l a b (HF.out W hb) hl3)
        have K2 := Lib.hid (fun W (hb : Below w.heap.size w W) => ralias_any W A cap l a b (HF.out W hb) hl3)
        have K3 := Lib.hid (fun W (hb : Below w.heap.size w W) => callees_any W A cap l a (HF.out W hb) hl3 (HT.out W hb))
        have K4 := Lib.hid (fun W (hb : Below w.heap.size w W) => rcallees_any W A cap l a (HF.out W hb) hl3)
        have K5 := Lib.hid (fun W (hb : Below w.heap.size w W) => holders_any W A cap l a (HF.out W hb) hl3 (by have := hN.out; omega))
        have K6 := Lib.hid (fun W (hb : Below w.heap.size w W) => rholders_any W A cap l a (HF.out W hb) hl3 (by have := hN.out; omega))
        have hc := Lib.hid (callees_len hl2 a)
        have hh := Lib.hid (holders_len l a)
        rw [← hN.out] at K1 K2 K3 K4 K5 K6 hh
        generalize aliasB (facs l) a b = ab at *
        generalize calleesL (facs l) a = cs at *
        generalize holdersL (facs l) a = hs at *
        unfold BP at K1 K2 HW
        unfold LP at K3 K4 K5 K6
        unfold encStr at K1 K2 K3 K4 K5 K6
        have B1 := Lib.hid b1
        clear hr hl2 hl3 HG b1
        rcases ab with _ | _
        all_goals
          go_wp2_with (first
            | (go_at_call 8; refine (K1.out _ B1.out).mono ?_; rintro e w2 ⟨rfl, b2⟩; have B2 := Lib.hid (B1.out.trans (b2.mono B1.out.size)); clear K1 B1 b2)
            | (go_at_call 9; refine (K2.out _ B2.out).mono ?_; rintro e w3 ⟨rfl, b3⟩; have B3 := Lib.hid (B2.out.trans (b3.mono B2.out.size)); clear K2 B2 b3)
            | (go_at_call 11; refine (K3.out _ B3.out).mono ?_; rintro e w4 ⟨A4, c4, rfl, r4, b4⟩; have B4 := Lib.hid (B3.out.trans (b4.mono B3.out.size)); have R4 := Lib.hid r4; clear K3 B3 b4 r4)
            | (go_at_call 12; refine (K4.out _ B4.out).mono ?_; rintro e w5 ⟨A5, c5, rfl, r5, b5⟩; have B5 := Lib.hid (B4.out.trans (b5.mono B4.out.size)); have Q5 := Lib.hid (R4.out.below b5); have R5 := Lib.hid r5; clear K4 B4 b5 r5 R4)
            | (go_at_call 10; refine (inn.same_any _ _ _ _ _ cs Q5.out R5.out (Nat.le_trans hc.out (by decide))).mono ?_; rintro e w6 ⟨rfl, b6⟩; have B6 := Lib.hid (B5.out.trans (b6.mono B5.out.size)); clear B5 b6 Q5 R5)
            | (go_at_call 13; refine (K5.out _ B6.out).mono ?_; rintro e w7 ⟨A7, c7, rfl, r7, b7⟩; have B7 := Lib.hid (B6.out.trans (b7.mono B6.out.size)); have R7 := Lib.hid r7; clear K5 B6 b7 r7)
            | (go_at_call 14; refine (K6.out _ B7.out).mono ?_; rintro e w8 ⟨A8, c8, rfl, r8, b8⟩; have B8 := Lib.hid (B7.out.trans (b8.mono B7.out.size)); have Q8 := Lib.hid (R7.out.below b8); have R8 := Lib.hid r8; clear K6 B7 b8 r8 R7)
            | (go_at_call 10; refine (inn.same_any _ _ _ _ _ hs Q8.out R8.out (Nat.le_trans hh.out (by omega))).mono ?_; rintro e w9 ⟨rfl, b9⟩; have B9 := Lib.hid (B8.out.trans (b9.mono B8.out.size)); clear B8 b9 Q8 R8)
            | (go_at_call 15; refine (HW.out _ B9.out).mono ?_; rintro e w10 ⟨rfl, b10⟩; have B10 := Lib.hid (B9.out.trans (b10.mono B9.out.size)); clear HW B9 b10))
          go_ret
          exact ⟨rfl, B10.out⟩
  · have B1 := Lib.hid b1
    clear hr
    go_wp2_with fail
    go_ret
    exact ⟨rfl, B1.out⟩
end Go.Proofs.YtohdcmmkbblhkaaGreatDoor.qy
