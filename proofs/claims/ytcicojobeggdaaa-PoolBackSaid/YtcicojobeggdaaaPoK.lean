/-
  pool: one more text taken.
-/
import Derived.Test.YtcicojobeggdaaaPoJ
import Derived.Test.YtcicojobeggdaaaIn4
namespace Go.Proofs.Ytcicojobeggdaaa.po
open Go.RowKit Go.Sort Go.Proofs.Ytcicojobeggdaaa.mem Go.Proofs.Ytcicojobeggdaaa.vr

/-- a reader and a pool that is being read, made since a world -/
structure PR (w0 w : World) (r b : Nat) (A : Option Addr) (cap : Nat) (S : ByteArray) (p : Nat) (er : Int) (m : List (List UInt8)) : Prop where
  rd : RD w r S p er
  box : Box w b 51 #[.slice A m.length cap]
  seg : Seg w 9 A cap (m.map encStr)
  on : Below w0.heap.size w0 w
  hr : w0.heap.size ≤ r
  hb : w0.heap.size ≤ b
  ha : ∀ g ∈ blk A, w0.heap.size ≤ g

theorem PR.rb {w0 w : World} {r b : Nat} {A : Option Addr} {cap : Nat} {S : ByteArray} {p : Nat} {er : Int} {m : List (List UInt8)} (h : PR w0 w r b A cap S p er m) : r ≠ b := by
  rintro rfl
  have h1 := h.rd.box
  have h2 := h.box
  unfold Box at h1 h2
  rw [h1] at h2
  simp at h2

theorem PR.step {w0 w w' : World} {r b : Nat} {A : Option Addr} {cap : Nat} {S : ByteArray} {p p' : Nat} {er er' : Int} {m : List (List UInt8)} (h : PR w0 w r b A cap S p er m) (h2 : RD w' r S p' er') (hf : Fr [r] w w') : PR w0 w' r b A cap S p' er' m := by
  have h1 := h.rb
  have h3 : r ∉ blk A := h.seg.ne_box h.rd.box (by decide)
  exact ⟨h2, h.box.kept hf (by simpa using fun e => h1 e.symm), h.seg.kept hf (fun g hg e => by rw [List.mem_singleton] at e; subst e; exact h3 hg), h.on.trans (hf.below (by simpa using h.hr) h.on.size), h.hr, h.hb, h.ha⟩

theorem PR.bel {w0 w w' : World} {r b : Nat} {A : Option Addr} {cap : Nat} {S : ByteArray} {p : Nat} {er : Int} {m : List (List UInt8)} (h : PR w0 w r b A cap S p er m) (hb : Below w.heap.size w w') : PR w0 w' r b A cap S p er m :=
  ⟨⟨h.rd.box.kept (Fr.of_below hb []) (by simp)⟩, h.box.kept (Fr.of_below hb []) (by simp), h.seg.kept (Fr.of_below hb []) (by simp), h.on.trans (hb.mono h.on.size), h.hr, h.hb, h.ha⟩

theorem PR.pl {w0 w : World} {r b : Nat} {A : Option Addr} {cap : Nat} {S : ByteArray} {p : Nat} {er : Int} {m : List (List UInt8)} (h : PR w0 w r b A cap S p er m) : Pl w b A cap m := ⟨h.box, h.seg.rd⟩

def TkPost (w0 : World) (r b : Nat) (S : ByteArray) (R : Nat × Int × Int × List (List UInt8)) (e : Ending) (w' : World) : Prop := e = .returned (.int .i64 R.2.2.1) ∧ ∃ A' cap', PR w0 w' r b A' cap' S R.1 R.2.1 R.2.2.2

theorem tkpost {w0 w' : World} {r b : Nat} {S : ByteArray} {R : Nat × Int × Int × List (List UInt8)} {p : Nat} {er d : Int} {m : List (List UInt8)} (hR : R = (p, er, d, m)) {A : Option Addr} {cap : Nat} (h : PR w0 w' r b A cap S p er m) : TkPost w0 r b S R (.returned (.int .i64 d)) w' := by
  subst hR
  exact ⟨rfl, A, cap, h⟩

theorem nil_or_snoc (m : List (List UInt8)) : m = [] ∨ ∃ m' x, m = m' ++ [x] := by
  by_cases h : m = []
  · exact Or.inl h
  · exact Or.inr ⟨m.dropLast, m.getLast h, (List.dropLast_concat_getLast h).symm⟩

theorem leq_run (x a : List UInt8) (q : Bool) (h : (Op.bytesLess x a || x == a) = q) (W : World) : (binOp .leq 9 (.string ⟨x.toArray⟩) (.string ⟨a.toArray⟩)).run Try.prog W = .ok (.bool q) W := by
  subst h
  simp [binOp, Op.stringOp]

/-- what At answers of the last text -/
theorem at_last (w : World) (b : Nat) (A : Option Addr) (cap : Nat) (m : List (List UInt8)) (h : Pl w b A cap m) (hm : m.length ≤ 9223372036854775807) :
    Calls Try.prog 25 #[.pointer (some ⟨b, 0, none⟩), .int .i64 ((m.length : Int) - 1)] w fun e w' => e = .returned (.tuple #[encStr (m.getLastD []), .bool (decide (m ≠ []))]) ∧ w = w' := by
  rcases nil_or_snoc m with rfl | ⟨m', x, rfl⟩
  · exact pat_out w b A cap [] ((([] : List (List UInt8)).length : Int) - 1) h (Or.inl (by simp))
  · have e : (((m' ++ [x]).length : Int) - 1) = ((m'.length : Nat) : Int) := by simp
    have h2 := pat_in w b A cap (m' ++ [x]) m'.length h (by simp) hm
    have e2 : (m' ++ [x])[m'.length]'(by simp) = x := by simp
    rw [e2] at h2
    rw [e, lastD_snoc, decide_eq_true (by simp)]
    exact h2

theorem t_len {S : ByteArray} {p : Nat} (hp : p ≤ S.size) : (tx S p 0).1.data.toList.length ≤ S.size := by
  rw [size_toList]
  unfold tx
  split
  · exact Nat.zero_le S.size
  · split
    · exact Nat.zero_le S.size
    · split
      · exact Nat.zero_le S.size
      · simp only [ByteArray.size_extract]
        omega

theorem pool_end {w0 w w3 w4 : World} {r b : Nat} {A A3 : Option Addr} {cap cap3 : Nat} {S : ByteArray} {p : Nat} {m : List (List UInt8)} {x : List UInt8} (h : PR w0 w r b A cap S p 0 m) (hw : Fr [] w w3) (hs : Seg w4 9 A3 cap3 (m.map encStr ++ [encStr x])) (f3 : Fr (blk A) w3 w4) (hb3 : blk A3 = blk A ∨ blk A3 = [w3.heap.size]) :
    (∃ v, w4.cell? ⟨b, 0, none⟩ = some v) ∧ w4.frozen? ⟨b, 0, none⟩ = false ∧ PR w0 (w4.setCell ⟨b, 0, none⟩ (.slice A3 (m.length + 1) cap3)) r b A3 cap3 S p 0 (m ++ [x]) := by
  have hrb := h.rb
  have nb : b ∉ blk A := h.seg.ne_box h.box (by decide)
  have nr : r ∉ blk A := h.seg.ne_box h.rd.box (by decide)
  have hF : Fr (blk A) w w4 := hw.trans f3 (by simp) (fun g hg => Or.inl hg)
  have hbx := h.box.kept hF nb
  have hrx := h.rd.box.kept hF nr
  have n3 : b ∉ blk A3 := hs.ne_box hbx (by decide)
  have hset : Fr [b] w4 (w4.setCell ⟨b, 0, none⟩ (.slice A3 (m.length + 1) cap3)) := (Fr.refl [b] w4).setCell (Or.inl (by simp)) _
  have h4 := hw.size
  have h5 := h.on.size
  refine ⟨⟨_, hbx.cell 0⟩, hbx.free 0, ⟨⟨?_⟩, ?_, ?_, ?_, h.hr, h.hb, ?_⟩⟩
  · exact hrx.kept hset (by simpa using hrb)
  · have := hbx.put 0 (.slice A3 (m.length + 1) cap3)
    rw [List.length_append]
    exact this
  · have := hs.kept hset (fun g hg e => by rw [List.mem_singleton] at e; subst e; exact n3 hg)
    rwa [List.map_append]
  · refine (h.on.trans (hF.below (fun g hg => h.ha g hg) h5)).trans (hset.below (by simpa using h.hb) ?_)
    exact Nat.le_trans h5 hF.size
  · intro g hg
    rcases hb3 with e | e
    · exact h.ha g (e ▸ hg)
    · rw [e, List.mem_singleton] at hg
      subst hg
      omega

set_option maxRecDepth 100000 in
set_option maxHeartbeats 1000000 in
theorem take_any (w0 w : World) (r b : Nat) (A : Option Addr) (cap : Nat) (S : ByteArray) (p : Nat) (m : List (List UInt8)) (h : PR w0 w r b A cap S p 0 m) (hS : S.size ≤ 200000000) (hp : p ≤ S.size) (hm : m.length ≤ 6000) (hl : ∀ x ∈ m, x.length ≤ 1000) :
    Calls Try.prog 30 #[.pointer (some ⟨b, 0, none⟩), .pointer (some ⟨r, 0, none⟩)] w (TkPost w0 r b S (tkF S p m)) := by
  have K1 := Lib.hid (reads_int w r S p h.rd (by unfold maxLen; omega) hp)
  unfold VPost at K1
  have H0 := Lib.hid h
  clear h
  by_cases c1 : nE S p 0 = 0
  case neg =>
    have hv : tkF S p m = (nP S p 0, nE S p 0, nE S p 0, m) := by unfold tkF; rw [if_pos c1]
    have T := Lib.hid (fun (w' : World) A' cap' (h : PR w0 w' r b A' cap' S (nP S p 0) (nE S p 0) m) => tkpost hv h)
    have d1 : (nE S p 0 != 0) = true := by simpa using c1
    clear hv hl hm hp hS
    generalize tkF S p m = R at *
    generalize nE S p 0 = er at *
    generalize nP S p 0 = p1 at *
    generalize nV S p 0 = v at *
    go_enter Try.func30, Try.ntmps30
    go_wp2_with fail
    refine K1.out.mono ?_
    rintro e w1 ⟨rfl, h1, f1⟩
    have H1 := Lib.hid (H0.out.step h1 f1)
    clear h1 f1 K1 H0
    go_wp2_with fail
    go_ret
    exact T.out _ _ _ H1.out
  obtain ⟨_, hp1⟩ := n_ok hp c1
  have K2 := Lib.hid (fun w' (h : RD w' r S (nP S p 0) 0) => reads_str w' r S (nP S p 0) h (by unfold maxLen; omega) hp1)
  unfold VPost at K2
  by_cases c2 : (tx S (nP S p 0) 0).2.2 = 0
  case neg =>
    have hv : tkF S p m = ((tx S (nP S p 0) 0).2.1, (tx S (nP S p 0) 0).2.2, (tx S (nP S p 0) 0).2.2, m) := by unfold tkF; rw [if_neg (by simp [c1]), if_pos c2]
    have T := Lib.hid (fun (w' : World) A' cap' (h : PR w0 w' r b A' cap' S (tx S (nP S p 0) 0).2.1 (tx S (nP S p 0) 0).2.2 m) => tkpost hv h)
    have d1 : ((tx S (nP S p 0) 0).2.2 != 0) = true := by simpa using c2
    rw [c1] at K1
    clear hv hl hm hp hS
    generalize tkF S p m = R at *
    generalize (tx S (nP S p 0) 0).2.2 = er at *
    generalize (tx S (nP S p 0) 0).2.1 = p2 at *
    generalize (tx S (nP S p 0) 0).1 = t at *
    generalize nP S p 0 = p1 at *
    generalize nV S p 0 = v at *
    go_enter Try.func30, Try.ntmps30
    go_wp2_with fail
    refine K1.out.mono ?_
    rintro e w1 ⟨rfl, h1, f1⟩
    have H1 := Lib.hid (H0.out.step h1 f1)
    clear h1 f1 K1 H0
    go_wp2_with fail
    refine (K2.out _ H1.out.rd).mono ?_
    rintro e w2 ⟨rfl, h2, f2⟩
    have H2 := Lib.hid (H1.out.step h2 f2)
    clear h2 f2 K2 H1
    go_wp2_with fail
    go_ret
    exact T.out _ _ _ H2.out
  have hlast : (m.getLastD []).length ≤ 1000 := by
    rcases nil_or_snoc m with rfl | ⟨m', x, rfl⟩
    · simp
    · rw [lastD_snoc]; exact hl x (by simp)
  have htl := t_len (S := S) (p := nP S p 0) hp1
  obtain ⟨R, hR⟩ : ∃ R, tkF S p m = R := ⟨_, rfl⟩
  rw [hR]
  unfold tkF at hR
  rw [if_neg (by simp [c1]), if_neg (by simp [c2])] at hR
  rw [c1] at K1
  rw [c2] at K2
  have et : (tx S (nP S p 0) 0).1 = ⟨(tx S (nP S p 0) 0).1.data.toList.toArray⟩ := (bs_of _).symm
  rw [et] at K2
  have KL := Lib.hid (fun (w' : World) p' er' (h : PR w0 w' r b A cap S p' er' m) => plen_any w' b A cap m h.pl)
  have KA := Lib.hid (fun (w' : World) p' er' (h : PR w0 w' r b A cap S p' er' m) => at_last w' b A cap m h.pl (by omega))
  clear et c1 c2 hp hp1 hl
  generalize (tx S (nP S p 0) 0).2.1 = p2 at *
  generalize (tx S (nP S p 0) 0).1.data.toList = t at *
  generalize nP S p 0 = p1 at *
  generalize nV S p 0 = v at *
  obtain ⟨bh, hbh⟩ : ∃ bh, decide (m ≠ []) = bh := ⟨_, rfl⟩
  rw [hbh] at KA
  generalize m.getLastD [] = a at *
  have HR := Lib.hid hR.symm
  have HBH := Lib.hid hbh
  clear hR hbh
  have hw1 : IntKind.i64.wrap ((m.length : Int) - 1) = (m.length : Int) - 1 := IntWalk.i64_in _ (by omega)
  obtain ⟨i0, hi0, hz0, hz1, hz2⟩ := info_parts Go.Proofs.Ytcicojobeggdaaa.inn.info_str
  have Hi := Lib.hid hi0
  have Hz0 := Lib.hid hz0
  have Hz1 := Lib.hid hz1
  have Hz2 := Lib.hid hz2
  have Hml : Hid (m.length = (m.map encStr).length) := Lib.hid (by simp)
  clear hi0 hz0 hz1 hz2
  have T := Lib.hid (fun (w' : World) A' cap' p' er' d m' (hR : R = (p', er', d, m')) (h : PR w0 w' r b A' cap' S p' er' m') => tkpost hR h)
  go_enter Try.func30, Try.ntmps30
  go_wp2_with fail
  refine K1.out.mono ?_
  rintro e w1 ⟨rfl, h1, f1⟩
  have H1 := Lib.hid (H0.out.step h1 f1)
  clear h1 f1 K1 H0
  go_wp2_with fail
  refine (K2.out _ H1.out.rd).mono ?_
  rintro e w2 ⟨rfl, h2, f2⟩
  have H2 := Lib.hid (H1.out.step h2 f2)
  clear h2 f2 K2 H1
  go_wp2_with (go_at_call 14; refine (KL.out _ _ _ H2.out).mono ?_; rintro e w3 ⟨rfl, rfl⟩)
  refine (KA.out _ _ _ H2.out).mono ?_
  rintro e w3 ⟨rfl, rfl⟩
  clear KL KA
  by_cases c3 : a.length < v
  case pos =>
    have hR := Lib.hid (HR.out.trans (if_pos c3))
    have d3 : decide ((a.length : Int) < (v : Int)) = true := decide_eq_true (by omega)
    go_wp2_with fail
    go_ret
    exact T.out _ _ _ _ _ _ _ hR.out H2.out
  have HR := Lib.hid (HR.out.trans (if_neg c3))
  have d3 : decide ((a.length : Int) < (v : Int)) = false := decide_eq_false (by omega)
  have hvl : (a.take v).length = v := by rw [List.length_take]; omega
  have hxl : (a.take v ++ t).length = v + t.length := by rw [List.length_append, hvl]
  have hsa : (ByteArray.mk a.toArray).size = a.length := by simp [ByteArray.size]
  have hsl : ∀ W, (Instr.slice 9 (.string ⟨a.toArray⟩) none (some (.int .i64 (v : Int))) none).run Try.prog W = .ok (.string ⟨(a.take v).toArray⟩) W := by
    intro W
    rw [run_slice_string_h (P := Try.prog) W 9 ⟨a.toArray⟩ Try.underlying9 .i64 v (by omega) (by rw [hsa]; omega)]
    refine congrArg (fun z => Result.ok (Value.string z) W) ?_
    apply ByteArray.ext
    apply Array.ext'
    rw [ByteArray.data_extract, Array.toList_extract, List.extract_eq_take_drop]
    simp
  have q1 : ¬ 9223372036854775807 < (a.take v).length + t.length := by rw [hvl]; omega
  have s1 : (ByteArray.mk (a.take v).toArray ++ ByteArray.mk t.toArray) = ByteArray.mk (a.take v ++ t).toArray := ByteArray.mk_append_mk _ _
  have KS := Lib.hid (fun w' => shared_any w' a (a.take v ++ t) (by unfold maxLen; omega) (by rw [hxl]; unfold maxLen; omega))
  generalize a.take v ++ t = x at *
  generalize a.take v = a1 at *
  by_cases c4 : 1000 < x.length
  case pos =>
    have hR := Lib.hid (HR.out.trans (if_pos c4))
    have d4 : decide ((1000 : Int) < (x.length : Int)) = true := decide_eq_true (by omega)
    go_wp2_with fail
    go_ret
    exact T.out _ _ _ _ _ _ _ hR.out H2.out
  have HR := Lib.hid (HR.out.trans (if_neg c4))
  have d4 : decide ((1000 : Int) < (x.length : Int)) = false := decide_eq_false (by omega)
  have hlt : Op.bytesLess x a = decide (x < a) := bytesLess_dec x a
  cases bh with
  | false =>
    have hm0 : m = [] := by have := HBH.out; simpa using this
    have hc5 : ¬ (m ≠ [] ∧ ¬ a < x) := fun h => h.1 hm0
    clear hlt hm0
    have HR := Lib.hid (HR.out.trans (if_neg hc5))
    by_cases c6 : v < shr a x
    · have hR := Lib.hid (HR.out.trans (if_pos c6))
      have d6 : decide ((v : Int) < ((shr a x : Nat) : Int)) = true := decide_eq_true (by omega)
      clear hc5 HR
      generalize shr a x = u at *
      go_wp2_with fail
      refine (KS.out _).mono ?_
      rintro e w3 ⟨rfl, b3⟩
      have H3 := Lib.hid (H2.out.bel b3)
      clear b3 KS H2
      go_wp2_with fail
      go_ret
      exact T.out _ _ _ _ _ _ _ hR.out H3.out
    · have hR := Lib.hid (HR.out.trans (if_neg c6))
      have d6 : decide ((v : Int) < ((shr a x : Nat) : Int)) = false := decide_eq_false (by omega)
      clear hc5 HR
      generalize shr a x = u at *
      go_wp2_with fail
      refine (KS.out _).mono ?_
      rintro e w3 ⟨rfl, b3⟩
      have H3 := Lib.hid (H2.out.bel b3)
      clear b3 KS H2
      have c0 : w3.cell? ⟨b, 0, none⟩ = some (.slice A m.length cap) := H3.out.box.cell 0
      have hseg := Lib.hid (H3.out.seg.alloc (.cells #[.string ⟨x.toArray⟩] 9))
      have hWf : Hid (Fr [] w3 (w3.alloc (.cells #[.string ⟨x.toArray⟩] 9))) := Lib.hid ((Fr.refl [] w3).alloc _)
      have c1 : (w3.alloc (.cells #[.string ⟨x.toArray⟩] 9)).cell? ⟨b, 0, none⟩ = some (.slice A m.length cap) := (H3.out.box.kept hWf.out (by simp)).cell 0
      go_wp2_with (at_builtin
                   refine wpList_push rfl (.tmp 69) (.tmp 71) _ rfl hseg.out Hml.out Try.underlying22 Hi.out Hz0.out Hz1.out Hz2.out rfl rfl rfl (new_cell _ _ _) rfl (by omega) (by omega) ?_
                   intro A3 cap3 w4 hs3 f3 hb3
                   have hend := Lib.hid (pool_end (x := x) H3.out hWf.out hs3 f3 hb3)
                   clear hs3 f3 hb3 c0 c1
                   obtain ⟨⟨v3, hc3⟩, hf3, _⟩ := hend.out)
      go_ret
      exact T.out _ _ _ _ _ _ _ hR.out hend.out.2.2
  | true =>
    have hm0 : m ≠ [] := by have := HBH.out; simpa using this
    by_cases c5 : a < x
    · have hc5 : ¬ (m ≠ [] ∧ ¬ a < x) := fun h => h.2 c5
      have e1 : Op.bytesLess x a = false := by rw [hlt]; exact decide_eq_false (fun h => List.lt_irrefl a (List.lt_trans c5 h))
      have e2 : (x == a) = false := by
        rw [beq_eq_false_iff_ne]
        rintro rfl
        exact List.lt_irrefl _ c5
      have hle := fun W => leq_run x a false (by rw [e1, e2]; rfl) W
      clear hlt hm0 c5 e1 e2
      have HR := Lib.hid (HR.out.trans (if_neg hc5))
      by_cases c6 : v < shr a x
      · have hR := Lib.hid (HR.out.trans (if_pos c6))
        have d6 : decide ((v : Int) < ((shr a x : Nat) : Int)) = true := decide_eq_true (by omega)
        clear hc5 HR
        generalize shr a x = u at *
        go_wp2_with fail
        refine (KS.out _).mono ?_
        rintro e w3 ⟨rfl, b3⟩
        have H3 := Lib.hid (H2.out.bel b3)
        clear b3 KS H2
        go_wp2_with fail
        go_ret
        exact T.out _ _ _ _ _ _ _ hR.out H3.out
      · have hR := Lib.hid (HR.out.trans (if_neg c6))
        have d6 : decide ((v : Int) < ((shr a x : Nat) : Int)) = false := decide_eq_false (by omega)
        clear hc5 HR
        generalize shr a x = u at *
        go_wp2_with fail
        refine (KS.out _).mono ?_
        rintro e w3 ⟨rfl, b3⟩
        have H3 := Lib.hid (H2.out.bel b3)
        clear b3 KS H2
        have c0 : w3.cell? ⟨b, 0, none⟩ = some (.slice A m.length cap) := H3.out.box.cell 0
        have hseg := Lib.hid (H3.out.seg.alloc (.cells #[.string ⟨x.toArray⟩] 9))
        have hWf : Hid (Fr [] w3 (w3.alloc (.cells #[.string ⟨x.toArray⟩] 9))) := Lib.hid ((Fr.refl [] w3).alloc _)
        have c1 : (w3.alloc (.cells #[.string ⟨x.toArray⟩] 9)).cell? ⟨b, 0, none⟩ = some (.slice A m.length cap) := (H3.out.box.kept hWf.out (by simp)).cell 0
        go_wp2_with (at_builtin
                     refine wpList_push rfl (.tmp 69) (.tmp 71) _ rfl hseg.out Hml.out Try.underlying22 Hi.out Hz0.out Hz1.out Hz2.out rfl rfl rfl (new_cell _ _ _) rfl (by omega) (by omega) ?_
                     intro A3 cap3 w4 hs3 f3 hb3
                     have hend := Lib.hid (pool_end (x := x) H3.out hWf.out hs3 f3 hb3)
                     clear hs3 f3 hb3 c0 c1
                     obtain ⟨⟨v3, hc3⟩, hf3, _⟩ := hend.out)
        go_ret
        exact T.out _ _ _ _ _ _ _ hR.out hend.out.2.2
    · have hR := Lib.hid (HR.out.trans (if_pos ⟨hm0, c5⟩))
      by_cases c7 : x < a
      · have e1 : Op.bytesLess x a = true := by rw [hlt]; exact decide_eq_true c7
        have hle := fun W => leq_run x a true (by rw [e1]; rfl) W
        clear hlt hm0 c5 c7 e1
        go_wp2_with fail
        go_ret
        exact T.out _ _ _ _ _ _ _ hR.out H2.out
      · have e1 : Op.bytesLess x a = false := by rw [hlt]; exact decide_eq_false c7
        have e2 : (x == a) = true := by
          rw [beq_iff_eq]
          rcases Go.Proofs.Ytcicojobeggdaaa.inn.ordS.tot x a with h | h | h
          · exact absurd h c7
          · exact h
          · exact absurd h c5
        have hle := fun W => leq_run x a true (by rw [e1, e2]; rfl) W
        clear hlt hm0 c5 c7 e1 e2
        go_wp2_with fail
        go_ret
        exact T.out _ _ _ _ _ _ _ hR.out H2.out
end Go.Proofs.Ytcicojobeggdaaa.po
