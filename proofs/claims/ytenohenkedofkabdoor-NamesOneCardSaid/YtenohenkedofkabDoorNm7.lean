/-
  names.Base, Cell, Object, Of.
-/
import Derived.Test.YtenohenkedofkabDoorNm6
namespace Go.Proofs.YtenohenkedofkabDoor.nm
open Go.RowKit Go.Sort

def ReadYes (s : ByteArray) (w : World) (e : Ending) (w' : World) : Prop := e = .returned (.tuple #[(cand s).val, .int .i64 0]) ∧ Below w.heap.size w w'
def ReadNo (w : World) (e : Ending) (w' : World) : Prop := e = .returned (.tuple #[.agg #[.int .i64 0, .string ⟨#[]⟩, .int .i64 0, .string ⟨#[]⟩, .int .i64 0, .int .i64 0], .int .i64 11]) ∧ Below w.heap.size w w'

theorem read_yes (hd : Held) (s : ByteArray) (w : World) (hs : s.size ≤ maxLen) (htab : Tab w) (h : readB s = true) : Calls Tryd.prog 13 #[.string s] w (ReadYes s w) := by
  refine (read_any hd s w hs htab).mono ?_
  rintro e w' ⟨rfl, hb⟩
  refine ⟨?_, hb⟩
  unfold readN readE
  rw [if_pos h, if_pos h]

theorem read_no (hd : Held) (s : ByteArray) (w : World) (hs : s.size ≤ maxLen) (htab : Tab w) (h : readB s = false) : Calls Tryd.prog 13 #[.string s] w (ReadNo w) := by
  refine (read_any hd s w hs htab).mono ?_
  rintro e w' ⟨rfl, hb⟩
  refine ⟨?_, hb⟩
  unfold readN readE
  rw [if_neg (by rw [h]; decide), if_neg (by rw [h]; decide)]
  rfl

theorem readB_may {s : ByteArray} (h : readB s = true) : mayB (cand s) = true := by
  unfold readB at h
  exact (Bool.and_eq_true _ _ ▸ h).1

theorem small_le {s : ByteArray} (h : s.size ≤ 16) : s.size ≤ maxLen := Nat.le_trans h (by decide)

/-- the base of a text -/
def baseS (s : ByteArray) : ByteArray := if readB s then txt ⟨(cand s).kind, (cand s).fn, 0, (cand s).name, (cand s).n, (cand s).cell⟩ else ⟨#[]⟩

def StrPost (t : ByteArray) (w : World) (e : Ending) (w' : World) : Prop := e = .returned (.string t) ∧ Below w.heap.size w w'

set_option maxHeartbeats 1000000 in
theorem base_any (hd : Held) (s : ByteArray) (w : World) (hs : s.size ≤ maxLen) (htab : Tab w) : Calls Tryd.prog 17 #[.string s] w (StrPost (baseS s) w) := by
  rcases hr : readB s with _ | _
  · have Hr := Lib.hid (fun w h => read_no hd s w hs h hr)
    have Hv : Hid (baseS s = ⟨#[]⟩) := Lib.hid (by unfold baseS; rw [hr]; rfl)
    unfold ReadNo at Hr
    have Htab := Lib.hid htab
    clear hr hd htab
    unfold maxLen at hs
    go_enter Tryd.func17, Tryd.ntmps17
    go_wp2_with fail
    refine (Hr.out w Htab.out).mono ?_
    rintro e w2 ⟨rfl, hb2⟩
    clear Hr Htab
    go_wp2_with fail
    go_ret
    exact ⟨by rw [Hv.out]; rfl, by repeat (first | (with_reducible exact hb2) | (with_reducible refine Below.setCell ?_ (by simp [hb2.size]; done) _) | (with_reducible refine Below.alloc ?_ hb2.size _))⟩
  · have Hr := Lib.hid (fun w h => read_yes hd s w hs h hr)
    have hm := readB_may hr
    have Hv : Hid (baseS s = txt ⟨(cand s).kind, (cand s).fn, 0, (cand s).name, (cand s).n, (cand s).cell⟩) := Lib.hid (by unfold baseS; rw [if_pos hr])
    obtain ⟨m1, m2⟩ := may_sizes _ hm
    unfold ReadYes at Hr
    generalize cand s = d at *
    obtain ⟨kind, fn, copy, name, n, cell⟩ := d
    have Ht := Lib.hid (fun w h => text_any hd ⟨kind, fn, 0, name, n, cell⟩ w (small_le m2) (small_le m1) h)
    unfold Nd.val Nd.cells at Hr
    unfold TextPost Nd.val Nd.cells at Ht
    have Hv2 : Hid (baseS s = txt ⟨kind, fn, 0, name, n, cell⟩) := Hv
    generalize txt ⟨kind, fn, 0, name, n, cell⟩ = tt at *
    generalize terr ⟨kind, fn, 0, name, n, cell⟩ = te at *
    have Htab := Lib.hid htab
    clear hr hd htab hm m1 m2 Hv
    unfold maxLen at hs
    go_enter Tryd.func17, Tryd.ntmps17
    go_wp2_with fail
    refine (Hr.out w Htab.out).mono ?_
    rintro e w2 ⟨rfl, hb2⟩
    have hz := hb2.size
    clear Hr
    go_wp2_with fail
    refine call_abs (fun W' => Below w.heap.size w W') ?_ ?_
    · repeat (first | (with_reducible exact hb2) | (with_reducible refine Below.setCell ?_ (by simp; done) _) | (with_reducible refine Below.alloc ?_ (by simp; done) _) | (with_reducible refine Below.setCell ?_ hz _) | (with_reducible refine Below.alloc ?_ hz _))
    intro W4 hb4
    refine (Ht.out W4 (tab_below Htab.out hb4)).mono ?_
    rintro e w5 ⟨rfl, b5⟩
    have hb5 := below_on hb4 b5
    clear hb4 b5 Ht Htab
    go_wp2_with fail
    go_ret
    exact ⟨by rw [Hv2.out]; rfl, hb5⟩


/-- an object's cell -/
def cellTS (s : ByteArray) (k : Int) : ByteArray := if readB s = true ∧ (cand s).cell = -1 ∧ 0 ≤ k then txt ⟨(cand s).kind, (cand s).fn, (cand s).copy, (cand s).name, (cand s).n, k⟩ else ⟨#[]⟩

set_option maxHeartbeats 1000000 in
theorem cell_any (hd : Held) (s : ByteArray) (k : Int) (w : World) (hs : s.size ≤ maxLen) (htab : Tab w) : Calls Tryd.prog 21 #[.string s, .int .i64 k] w (StrPost (cellTS s k) w) := by
  rcases hr : readB s with _ | _
  · have Hr := Lib.hid (fun w h => read_no hd s w hs h hr)
    have Hv : Hid (cellTS s k = ⟨#[]⟩) := Lib.hid (by unfold cellTS; rw [if_neg (by rintro ⟨h, _⟩; rw [hr] at h; exact absurd h (by decide))])
    unfold ReadNo at Hr
    have Htab := Lib.hid htab
    clear hr hd htab
    unfold maxLen at hs
    go_enter Tryd.func21, Tryd.ntmps21
    go_wp2_with fail
    refine (Hr.out w Htab.out).mono ?_
    rintro e w2 ⟨rfl, hb2⟩
    clear Hr Htab
    go_wp2_with fail
    go_ret
    exact ⟨by rw [Hv.out]; rfl, by repeat (first | (with_reducible exact hb2) | (with_reducible refine Below.setCell ?_ (by simp [hb2.size]; done) _) | (with_reducible refine Below.alloc ?_ hb2.size _))⟩
  · have Hr := Lib.hid (fun w h => read_yes hd s w hs h hr)
    have hm := readB_may hr
    have Hvv : cellTS s k = if (cand s).cell = -1 ∧ 0 ≤ k then txt ⟨(cand s).kind, (cand s).fn, (cand s).copy, (cand s).name, (cand s).n, k⟩ else ⟨#[]⟩ := by unfold cellTS; simp only [hr, true_and]
    obtain ⟨m1, m2⟩ := may_sizes _ hm
    unfold ReadYes at Hr
    generalize cand s = d at *
    obtain ⟨kind, fn, copy, name, n, cell⟩ := d
    have Ht := Lib.hid (fun w h => text_any hd ⟨kind, fn, copy, name, n, k⟩ w (small_le m2) (small_le m1) h)
    unfold Nd.val Nd.cells at Hr
    unfold TextPost Nd.val Nd.cells at Ht
    have Hv2 : Hid (cellTS s k = if cell = -1 ∧ 0 ≤ k then txt ⟨kind, fn, copy, name, n, k⟩ else ⟨#[]⟩) := Lib.hid Hvv
    generalize txt ⟨kind, fn, copy, name, n, k⟩ = tt at *
    generalize terr ⟨kind, fn, copy, name, n, k⟩ = te at *
    have Htab := Lib.hid htab
    clear hr hd htab hm m1 m2 Hvv
    unfold maxLen at hs
    by_cases hc : cell = -1
    · by_cases hk : 0 ≤ k
      · have Hv3 : Hid (cellTS s k = tt) := Lib.hid (by rw [Hv2.out, if_pos ⟨hc, hk⟩])
        have hk2 : decide (k < 0) = false := by simp; omega
        subst hc
        clear Hv2 hk
        go_enter Tryd.func21, Tryd.ntmps21
        go_wp2_with fail
        refine (Hr.out w Htab.out).mono ?_
        rintro e w2 ⟨rfl, hb2⟩
        have hz := hb2.size
        clear Hr
        go_wp2_with fail
        refine call_abs (fun W' => Below w.heap.size w W') ?_ ?_
        · repeat (first | (with_reducible exact hb2) | (with_reducible refine Below.setCell ?_ (by simp; done) _) | (with_reducible refine Below.alloc ?_ (by simp; done) _) | (with_reducible refine Below.setCell ?_ hz _) | (with_reducible refine Below.alloc ?_ hz _))
        intro W4 hb4
        refine (Ht.out W4 (tab_below Htab.out hb4)).mono ?_
        rintro e w5 ⟨rfl, b5⟩
        have hb5 := below_on hb4 b5
        clear hb4 b5 Ht Htab
        go_wp2_with fail
        go_ret
        exact ⟨by rw [Hv3.out]; rfl, hb5⟩
      · have Hv3 : Hid (cellTS s k = ⟨#[]⟩) := Lib.hid (by rw [Hv2.out, if_neg (by rintro ⟨_, h⟩; exact hk h)])
        have hk2 : decide (k < 0) = true := by simp; omega
        subst hc
        clear Hv2 hk Ht
        go_enter Tryd.func21, Tryd.ntmps21
        go_wp2_with fail
        refine (Hr.out w Htab.out).mono ?_
        rintro e w2 ⟨rfl, hb2⟩
        clear Hr Htab
        go_wp2_with fail
        go_ret
        exact ⟨by rw [Hv3.out]; rfl, by repeat (first | (with_reducible exact hb2) | (with_reducible refine Below.setCell ?_ (by simp [hb2.size]; done) _) | (with_reducible refine Below.alloc ?_ hb2.size _))⟩
    · have Hv3 : Hid (cellTS s k = ⟨#[]⟩) := Lib.hid (by rw [Hv2.out, if_neg (by rintro ⟨h, _⟩; exact hc h)])
      have hc2 : (cell != -1) = true := by rw [bne_iff_ne]; exact hc
      clear Hv2 Ht hc
      go_enter Tryd.func21, Tryd.ntmps21
      go_wp2_with fail
      refine (Hr.out w Htab.out).mono ?_
      rintro e w2 ⟨rfl, hb2⟩
      clear Hr Htab
      go_wp2_with fail
      go_ret
      exact ⟨by rw [Hv3.out]; rfl, by repeat (first | (with_reducible exact hb2) | (with_reducible refine Below.setCell ?_ (by simp [hb2.size]; done) _) | (with_reducible refine Below.alloc ?_ hb2.size _))⟩

/-- a cell's object -/
def objS (s : ByteArray) : ByteArray := if readB s = true ∧ (cand s).cell ≠ -1 then txt ⟨(cand s).kind, (cand s).fn, (cand s).copy, (cand s).name, (cand s).n, -1⟩ else ⟨#[]⟩
def objN (s : ByteArray) : Int := if readB s = true ∧ (cand s).cell ≠ -1 then (cand s).cell else 0
def objB (s : ByteArray) : Bool := decide (readB s = true ∧ (cand s).cell ≠ -1)
def ObjPost (s : ByteArray) (w : World) (e : Ending) (w' : World) : Prop := e = .returned (.tuple #[.string (objS s), .int .i64 (objN s), .bool (objB s)]) ∧ Below w.heap.size w w'

theorem results_tmp3 {fn : Func} {t u v : Tmp} (h : fn.results = #[.tmp t, .tmp u, .tmp v]) (tmps : Array Value) (P : Program) (w : World) :
    (results fn tmps).run P w = .ok (.tuple #[tmps.getD t undef, tmps.getD u undef, tmps.getD v undef]) w := by
  simp [results, h]

set_option maxHeartbeats 1000000 in
theorem object_any (hd : Held) (s : ByteArray) (w : World) (hs : s.size ≤ maxLen) (htab : Tab w) : Calls Tryd.prog 15 #[.string s] w (ObjPost s w) := by
  rcases hr : readB s with _ | _
  · have Hr := Lib.hid (fun w h => read_no hd s w hs h hr)
    have hn : ¬ (readB s = true ∧ (cand s).cell ≠ -1) := by rintro ⟨h, _⟩; rw [hr] at h; exact absurd h (by decide)
    have Hv1 : Hid (objS s = ⟨#[]⟩) := Lib.hid (by unfold objS; rw [if_neg hn])
    have Hv2 : Hid (objN s = 0) := Lib.hid (by unfold objN; rw [if_neg hn])
    have Hv3 : Hid (objB s = false) := Lib.hid (by unfold objB; rw [decide_eq_false hn])
    unfold ReadNo at Hr
    have Htab := Lib.hid htab
    clear hr hd htab hn
    unfold maxLen at hs
    go_enter Tryd.func15, Tryd.ntmps15
    go_wp2_with fail
    refine (Hr.out w Htab.out).mono ?_
    rintro e w2 ⟨rfl, hb2⟩
    clear Hr Htab
    go_wp2_with fail
    refine bodyPost_ret (results_tmp3 rfl _ _ _) rfl ?_
    exact ⟨by rw [Hv1.out, Hv2.out, Hv3.out]; rfl, by repeat (first | (with_reducible exact hb2) | (with_reducible refine Below.setCell ?_ (by simp [hb2.size]; done) _) | (with_reducible refine Below.alloc ?_ hb2.size _))⟩
  · have Hr := Lib.hid (fun w h => read_yes hd s w hs h hr)
    have hm := readB_may hr
    by_cases hc : (cand s).cell = -1
    · have hn : ¬ (readB s = true ∧ (cand s).cell ≠ -1) := by rintro ⟨_, h⟩; exact h hc
      have Hv1 : Hid (objS s = ⟨#[]⟩) := Lib.hid (by unfold objS; rw [if_neg hn])
      have Hv2 : Hid (objN s = 0) := Lib.hid (by unfold objN; rw [if_neg hn])
      have Hv3 : Hid (objB s = false) := Lib.hid (by unfold objB; rw [decide_eq_false hn])
      unfold ReadYes at Hr
      generalize cand s = d at *
      obtain ⟨kind, fn, copy, name, n, cell⟩ := d
      have hc' : cell = -1 := hc
      subst hc'
      unfold Nd.val Nd.cells at Hr
      have Htab := Lib.hid htab
      clear hr hd htab hm hn hc
      unfold maxLen at hs
      go_enter Tryd.func15, Tryd.ntmps15
      go_wp2_with fail
      refine (Hr.out w Htab.out).mono ?_
      rintro e w2 ⟨rfl, hb2⟩
      clear Hr Htab
      go_wp2_with fail
      refine bodyPost_ret (results_tmp3 rfl _ _ _) rfl ?_
      exact ⟨by rw [Hv1.out, Hv2.out, Hv3.out]; rfl, by repeat (first | (with_reducible exact hb2) | (with_reducible refine Below.setCell ?_ (by simp [hb2.size]; done) _) | (with_reducible refine Below.alloc ?_ hb2.size _))⟩
    · have hn : (readB s = true ∧ (cand s).cell ≠ -1) := ⟨hr, hc⟩
      have Hv1 : objS s = txt ⟨(cand s).kind, (cand s).fn, (cand s).copy, (cand s).name, (cand s).n, -1⟩ := by unfold objS; rw [if_pos hn]
      have Hv2 : objN s = (cand s).cell := by unfold objN; rw [if_pos hn]
      have Hv3 : Hid (objB s = true) := Lib.hid (by unfold objB; rw [decide_eq_true hn])
      obtain ⟨m1, m2⟩ := may_sizes _ hm
      unfold ReadYes at Hr
      clear hn
      generalize cand s = d at *
      obtain ⟨kind, fn, copy, name, n, cell⟩ := d
      have hc2 : (cell == -1) = false := by rw [beq_eq_false_iff_ne]; exact hc
      have Ht := Lib.hid (fun w h => text_any hd ⟨kind, fn, copy, name, n, -1⟩ w (small_le m2) (small_le m1) h)
      unfold Nd.val Nd.cells at Hr
      unfold TextPost Nd.val Nd.cells at Ht
      have Hv1 : Hid (objS s = txt ⟨kind, fn, copy, name, n, -1⟩) := Lib.hid Hv1
      have Hv2 : Hid (objN s = cell) := Lib.hid Hv2
      generalize txt ⟨kind, fn, copy, name, n, -1⟩ = tt at *
      generalize terr ⟨kind, fn, copy, name, n, -1⟩ = te at *
      have Htab := Lib.hid htab
      clear hr hd htab hm m1 m2 hc
      unfold maxLen at hs
      go_enter Tryd.func15, Tryd.ntmps15
      go_wp2_with fail
      refine (Hr.out w Htab.out).mono ?_
      rintro e w2 ⟨rfl, hb2⟩
      have hz := hb2.size
      clear Hr
      go_wp2_with fail
      refine call_abs (fun W' => Below w.heap.size w W') ?_ ?_
      · repeat (first | (with_reducible exact hb2) | (with_reducible refine Below.setCell ?_ (by simp; done) _) | (with_reducible refine Below.alloc ?_ (by simp; done) _) | (with_reducible refine Below.setCell ?_ hz _) | (with_reducible refine Below.alloc ?_ hz _))
      intro W4 hb4
      refine (Ht.out W4 (tab_below Htab.out hb4)).mono ?_
      rintro e w5 ⟨rfl, b5⟩
      have hb5 := below_on hb4 b5
      clear hb4 b5 Ht Htab
      go_wp2_with fail
      refine bodyPost_ret (results_tmp3 rfl _ _ _) rfl ?_
      exact ⟨by rw [Hv1.out, Hv2.out, Hv3.out]; rfl, hb5⟩

set_option maxHeartbeats 1000000 in
theorem of_any (hd : Held) (kind : Int) (fn name : ByteArray) (n : Int) (w : World) (hsf : fn.size ≤ maxLen) (hsn : name.size ≤ maxLen) (htab : Tab w) : Calls Tryd.prog 19 #[.int .i64 kind, .string fn, .string name, .int .i64 n] w (StrPost (txt ⟨kind, fn, 0, name, n, -1⟩) w) := by
  have Ht := Lib.hid (fun w h => text_any hd ⟨kind, fn, 0, name, n, -1⟩ w hsn hsf h)
  unfold TextPost Nd.val Nd.cells at Ht
  generalize txt ⟨kind, fn, 0, name, n, -1⟩ = tt at *
  generalize terr ⟨kind, fn, 0, name, n, -1⟩ = te at *
  have Htab := Lib.hid htab
  clear hd htab
  unfold maxLen at hsf hsn
  go_enter Tryd.func19, Tryd.ntmps19
  go_wp2_with fail
  refine call_abs (fun W' => Below w.heap.size w W') ?_ ?_
  · repeat (first | (with_reducible exact Below.refl _ _) | (with_reducible refine Below.setCell ?_ (by simp; done) _) | (with_reducible refine Below.alloc ?_ (by simp; done) _))
  intro W4 hb4
  refine (Ht.out W4 (tab_below Htab.out hb4)).mono ?_
  rintro e w5 ⟨rfl, b5⟩
  have hb5 := below_on hb4 b5
  clear hb4 b5 Ht Htab
  go_wp2_with fail
  go_ret
  exact ⟨rfl, hb5⟩

end Go.Proofs.YtenohenkedofkabDoor.nm
