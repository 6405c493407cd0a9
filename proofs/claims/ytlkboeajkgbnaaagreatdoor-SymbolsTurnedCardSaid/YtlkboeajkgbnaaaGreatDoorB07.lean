import Derived.WalkSmall
import Derived.Test.YtlkboeajkgbnaaaGreatDoorB06
set_option linter.all false
set_option maxHeartbeats 4000000
namespace Go.Proofs.YtlkboeajkgbnaaaGreatDoor.nm
open Go.RowKit Go.Sort
abbrev Tab (w : World) : Prop := Lib.TabIs Tryz.prog w "internal/strconv.uint64pow10" .u64 Lib.pow10Tab
theorem gTab : Tryz.prog.globalNamed "internal/strconv.uint64pow10" = some 3 := by kernel_rfl
theorem tab_below {w w' : World} (h : Tab w) (hb : Below w.heap.size w w') : Tab w' := by
  have h' : w.var? Tryz.prog "internal/strconv.uint64pow10" = _ := h
  have hlt : 3 < w.heap.size := by
    rcases Nat.lt_or_ge 3 w.heap.size with h1 | h1
    · exact h1
    · unfold World.var? at h'
      simp only [gTab, Option.bind_some] at h'
      rw [Array.getElem?_eq_none h1] at h'
      cases h'
  exact var?_below hb gTab hlt h'
theorem at_below {W w' : World} {a : Addr} {v : Value} (h : W.cell? a = some v) (hb : Below W.heap.size W w') : w'.cell? a = some v := by
  rw [hb.cell (block_lt_of_cell h)]; exact h
def markL (k : Int) : List UInt8 := if k = 1 then [46] else if k = 2 then [36] else if k = 3 then [64] else if k = 4 then [40, 41] else if k = 6 then [37] else if k = 7 then [35] else []
def copyL (c : Int) : List UInt8 := if 0 < c then 126 :: Lib.itoa c else []
def bodyL (d : Nd) : List UInt8 := if d.kind = 1 ∨ d.kind = 5 ∨ d.kind = 6 then d.name.data.toList else if d.kind = 2 ∨ d.kind = 3 ∨ d.kind = 7 then Lib.itoa d.n else []
def cellL (c : Int) : List UInt8 := if c = -1 then [] else 43 :: Lib.itoa c
def textL (d : Nd) : List UInt8 := d.fn.data.toList ++ (copyL d.copy ++ (markL d.kind ++ (bodyL d ++ cellL d.cell)))
def txt (d : Nd) : ByteArray := if mayB d then ⟨(textL d).toArray⟩ else ⟨#[]⟩
def terr (d : Nd) : Int := if mayB d then 0 else 11
def TextPost (d : Nd) (w : World) (e : Ending) (w' : World) : Prop := e = .returned (.tuple #[.string (txt d), .int .i64 (terr d)]) ∧ Below w.heap.size w w'
theorem nameB_le (s : ByteArray) (h : dg.nameB s = true) : s.size ≤ 16 := by
  unfold dg.nameB at h
  simp only [Bool.and_eq_true, decide_eq_true_eq] at h
  omega
theorem empty_of (s : ByteArray) (h : s.toList = []) : s.size = 0 := by
  rw [ByteArray.toList_eq] at h
  have := dg.size_list s
  rw [h] at this
  simpa using this.symm
theorem beq_empty (s : ByteArray) (h : (s.toList == (ByteArray.mk #[]).toList) = true) : s.size = 0 := by
  apply empty_of
  rw [beq_iff_eq] at h
  rw [h, ByteArray.toList_eq]
theorem may_sizes (d : Nd) (h : mayB d = true) : d.fn.size ≤ 16 ∧ d.name.size ≤ 16 := by
  obtain ⟨kind, fn, copy, name, n, cell⟩ := d
  unfold mayB at h
  simp only [Bool.and_eq_true, decide_eq_true_eq] at h
  obtain ⟨⟨h1, h7⟩, hs, _, _, hw⟩ := h
  rcases (by omega : kind = 1 ∨ kind = 2 ∨ kind = 3 ∨ kind = 4 ∨ kind = 5 ∨ kind = 6 ∨ kind = 7) with rfl | rfl | rfl | rfl | rfl | rfl | rfl
  all_goals
    simp only [sameB, ownN, swB, Bool.and_eq_true] at hs hw
    simp at hw
    show fn.size ≤ 16 ∧ name.size ≤ 16
  · exact ⟨nameB_le _ hw.1, nameB_le _ hw.2⟩
  · exact ⟨nameB_le _ hw.1, by have := beq_empty name (by simpa using hs.2.2.2.1); omega⟩
  · exact ⟨nameB_le _ hw.1, by have := beq_empty name (by simpa using hs.2.2.2.1); omega⟩
  · exact ⟨nameB_le _ hw.1, by have := beq_empty name (by simpa using hs.2.2.2.1); omega⟩
  · exact ⟨by have := beq_empty fn (by simpa using hs.2.1); omega, nameB_le _ hw⟩
  · exact ⟨nameB_le _ hw.1, nameB_le _ hw.2⟩
  · exact ⟨nameB_le _ hw.1, by have := beq_empty name (by simpa using hs.2.2.2.1); omega⟩
theorem cntB_le {n l : Int} (h : cntB n l = true) : l ≤ n ∧ n ≤ 268435456 := by simpa [cntB] using h
theorem may_bounds (d : Nd) (h : mayB d = true) : (0 ≤ d.copy ∧ d.copy ≤ 268435456) ∧ (-1 ≤ d.cell ∧ d.cell ≤ 268435456) ∧ 1 ≤ d.kind ∧ d.kind ≤ 7 := by
  unfold mayB at h
  simp only [Bool.and_eq_true, decide_eq_true_eq] at h
  exact ⟨cntB_le h.2.2.1, cntB_le h.2.2.2.1, h.1⟩
theorem may_n (d : Nd) (h : mayB d = true) (hk : d.kind = 2 ∨ d.kind = 3 ∨ d.kind = 7) : 0 ≤ d.n ∧ d.n ≤ 268435456 := by
  unfold mayB at h
  simp only [Bool.and_eq_true, decide_eq_true_eq] at h
  have hw := h.2.2.2.2
  unfold swB at hw
  rcases hk with hk | hk | hk
  all_goals
    rw [hk] at hw
    simp at hw
    have := cntB_le hw.2
    omega
theorem itoa_len (n : Int) (h0 : 0 ≤ n) (h : n ≤ 268435456) : (Lib.itoa n).length ≤ 20 := by
  obtain ⟨u, rfl⟩ := Int.eq_ofNat_of_zero_le h0
  rw [Lib.itoa_nonneg]
  exact dt.len_le u (by omega)
theorem mk_size (l : List UInt8) : (ByteArray.mk l.toArray).size = l.length := by simp [ByteArray.size]
theorem same_bytes {a b : ByteArray} (h : a.data.toList = b.data.toList) : a = b := ByteArray.ext (Array.ext' h)
def Six (d : Nd) (b : Nat) (w : World) : Prop := w.cell? ⟨b, 0, none⟩ = some (.int .i64 d.kind) ∧ w.cell? ⟨b, 1, none⟩ = some (.string d.fn) ∧ w.cell? ⟨b, 2, none⟩ = some (.int .i64 d.copy) ∧ w.cell? ⟨b, 3, none⟩ = some (.string d.name) ∧ w.cell? ⟨b, 4, none⟩ = some (.int .i64 d.n) ∧ w.cell? ⟨b, 5, none⟩ = some (.int .i64 d.cell)
theorem Six.on {d : Nd} {b : Nat} {w w' : World} (h : Six d b w) (hb : Below w.heap.size w w') : Six d b w' :=
  ⟨at_below h.1 hb, at_below h.2.1 hb, at_below h.2.2.1 hb, at_below h.2.2.2.1 hb, at_below h.2.2.2.2.1 hb, at_below h.2.2.2.2.2 hb⟩
theorem Six.new (d : Nd) (w : World) (t : TypeId) : Six d w.heap.size (w.alloc (.cells d.cells t)) := by
  obtain ⟨kind, fn, copy, name, n, cell⟩ := d
  unfold Six Nd.cells
  exact ⟨by simp, by simp, by simp, by simp, by simp, by simp⟩
theorem textPost_mk {d : Nd} {w w' : World} (hm : mayB d = true) {s : ByteArray} (hs : s.data.toList = textL d) (hb : Below w.heap.size w w') : TextPost d w (.returned (.tuple #[.string s, .int .i64 0])) w' := by
  refine ⟨?_, hb⟩
  have e1 : txt d = s := by
    unfold txt; rw [if_pos hm]
    exact same_bytes (by rw [hs])
  have e2 : terr d = 0 := by unfold terr; rw [if_pos hm]
  rw [e1, e2]
theorem text_of (x : Int) (h0 : 0 ≤ x) (h1 : x ≤ 268435456) : ∃ T : ByteArray, T.data.toList = Lib.itoa x ∧ T.size ≤ 20 ∧ ∀ w, Tab w → Calls Tryz.prog 146 #[.int .i64 x] w fun e w' => e = .returned (.string T) ∧ Below w.heap.size w w' :=
  ⟨⟨(Lib.itoa x).toArray⟩, rfl, by rw [mk_size]; exact itoa_len x h0 h1, fun w h => dt.text_any x w (by omega) (by omega) h⟩
set_option maxRecDepth 100000 in
set_option maxHeartbeats 16000000 in
theorem text_A (kind : Int) (hq : kind = 1 ∨ kind = 4 ∨ kind = 5 ∨ kind = 6) (hd : Held) (fn : ByteArray) (copy : Int) (name : ByteArray) (n cell : Int) (w : World) (hm : mayB ⟨kind, fn, copy, name, n, cell⟩ = true) (htab : Tab w) :
    Calls Tryz.prog 120 #[Nd.val ⟨kind, fn, copy, name, n, cell⟩] w (TextPost ⟨kind, fn, copy, name, n, cell⟩ w) := by
  obtain ⟨hsf, hsn⟩ := may_sizes _ hm
  obtain ⟨hcp, hce, _⟩ := may_bounds _ hm
  have hsf1 : fn.size ≤ 16 := hsf
  have hsn1 : name.size ≤ 16 := hsn
  have hcp1 : 0 ≤ copy ∧ copy ≤ 268435456 := hcp
  have hce1 : -1 ≤ cell ∧ cell ≤ 268435456 := hce
  clear hsf hsn hcp hce
  have Hmay : Hid (∀ w, Calls Tryz.prog 145 #[.agg #[.int .i64 kind, .string fn, .int .i64 copy, .string name, .int .i64 n, .int .i64 cell]] w fun e w' => e = .returned (.bool true) ∧ Below w.heap.size w w') := Lib.hid (fun w => by
    have := may_any hd ⟨kind, fn, copy, name, n, cell⟩ w (by show name.size ≤ maxLen; unfold maxLen; omega) (by show fn.size ≤ maxLen; unfold maxLen; omega)
    rw [hm] at this
    exact this)
  have Hm := Lib.hid hm
  clear hm hd
  obtain ⟨Tc, eTc, sTc, hTc⟩ := text_of copy hcp1.1 hcp1.2
  have eTc := Lib.hid eTc
  have hTc := Lib.hid hTc
  have Hnew : Hid (Six ⟨kind, fn, copy, name, n, cell⟩ w.heap.size (w.alloc (.cells #[.int .i64 kind, .string fn, .int .i64 copy, .string name, .int .i64 n, .int .i64 cell] 115))) := Lib.hid (Six.new ⟨kind, fn, copy, name, n, cell⟩ w _)
  have hb0 : Below w.heap.size w (w.alloc (.cells #[.int .i64 kind, .string fn, .int .i64 copy, .string name, .int .i64 n, .int .i64 cell] 115)) := (Below.refl _ _).alloc (Nat.le_refl _) _
  rcases hq with rfl | rfl | rfl | rfl
  all_goals
    have Htab := Lib.hid htab
    clear htab
    unfold Nd.val Nd.cells
    by_cases hl : cell = -1
    · have hlb : (cell != -1) = false := by rw [hl]; rfl
      have Hl := Lib.hid hl
      clear hl
      by_cases hc0 : 0 < copy
      · have Hc0 := Lib.hid hc0
        go_enter Tryz.func120, Tryz.ntmps120
        go_wp2_with fail
        refine (Hmay.out _).mono ?_
        rintro e w1 ⟨rfl, b1⟩
        have Hs1 := Lib.hid (Hnew.out.on b1)
        have hb1 := below_on hb0 b1
        obtain ⟨k0, k1, k2, k3, k4, k5⟩ := Hs1.out
        clear b1
        go_wp2_with fail
        refine (hTc.out _ (tab_below Htab.out hb1)).mono ?_
        rintro e w2 ⟨rfl, b2⟩
        have Hs2 := Lib.hid (Hs1.out.on b2)
        have hb2 := below_on hb1 b2
        clear k0 k1 k2 k3 k4 k5 b2
        obtain ⟨k0, k1, k2, k3, k4, k5⟩ := Hs2.out
        go_wp2_with fail
        go_ret2
        refine textPost_mk Hm.out ?_ hb2
        unfold textL copyL cellL
        rw [if_pos Hc0.out, if_pos Hl.out]
        simp [markL, bodyL, eTc.out]
      · have Hc0 := Lib.hid hc0
        go_enter Tryz.func120, Tryz.ntmps120
        go_wp2_with fail
        refine (Hmay.out _).mono ?_
        rintro e w1 ⟨rfl, b1⟩
        have Hs1 := Lib.hid (Hnew.out.on b1)
        have hb1 := below_on hb0 b1
        obtain ⟨k0, k1, k2, k3, k4, k5⟩ := Hs1.out
        clear b1
        go_wp2_with fail
        go_ret2
        refine textPost_mk Hm.out ?_ hb1
        unfold textL copyL cellL
        rw [if_neg (show ¬ 0 < copy by have := Hc0.out; omega), if_pos Hl.out]
        simp [markL, bodyL]
    · have hlb : (cell != -1) = true := by rw [bne_iff_ne]; exact hl
      obtain ⟨Tl, eTl, sTl, hTl⟩ := text_of cell (by omega) hce1.2
      have eTl := Lib.hid eTl
      have hTl := Lib.hid hTl
      have Hl := Lib.hid hl
      clear hl
      by_cases hc0 : 0 < copy
      · have Hc0 := Lib.hid hc0
        go_enter Tryz.func120, Tryz.ntmps120
        go_wp2_with fail
        refine (Hmay.out _).mono ?_
        rintro e w1 ⟨rfl, b1⟩
        have Hs1 := Lib.hid (Hnew.out.on b1)
        have hb1 := below_on hb0 b1
        obtain ⟨k0, k1, k2, k3, k4, k5⟩ := Hs1.out
        clear b1
        go_wp2_with fail
        refine (hTc.out _ (tab_below Htab.out hb1)).mono ?_
        rintro e w2 ⟨rfl, b2⟩
        have Hs2 := Lib.hid (Hs1.out.on b2)
        have hb2 := below_on hb1 b2
        clear k0 k1 k2 k3 k4 k5 b2
        obtain ⟨k0, k1, k2, k3, k4, k5⟩ := Hs2.out
        go_wp2_with fail
        refine (hTl.out _ (tab_below Htab.out hb2)).mono ?_
        rintro e w3 ⟨rfl, b3⟩
        have Hs3 := Lib.hid (Hs2.out.on b3)
        have hb3 := below_on hb2 b3
        clear k0 k1 k2 k3 k4 k5 b3
        obtain ⟨k0, k1, k2, k3, k4, k5⟩ := Hs3.out
        go_wp2_with fail
        go_ret2
        refine textPost_mk Hm.out ?_ hb3
        unfold textL copyL cellL
        rw [if_pos Hc0.out, if_neg Hl.out]
        simp [markL, bodyL, eTc.out, eTl.out]
      · have Hc0 := Lib.hid hc0
        go_enter Tryz.func120, Tryz.ntmps120
        go_wp2_with fail
        refine (Hmay.out _).mono ?_
        rintro e w1 ⟨rfl, b1⟩
        have Hs1 := Lib.hid (Hnew.out.on b1)
        have hb1 := below_on hb0 b1
        obtain ⟨k0, k1, k2, k3, k4, k5⟩ := Hs1.out
        clear b1
        go_wp2_with fail
        refine (hTl.out _ (tab_below Htab.out hb1)).mono ?_
        rintro e w2 ⟨rfl, b2⟩
        have Hs2 := Lib.hid (Hs1.out.on b2)
        have hb2 := below_on hb1 b2
        clear k0 k1 k2 k3 k4 k5 b2
        obtain ⟨k0, k1, k2, k3, k4, k5⟩ := Hs2.out
        go_wp2_with fail
        go_ret2
        refine textPost_mk Hm.out ?_ hb2
        unfold textL copyL cellL
        rw [if_neg (show ¬ 0 < copy by have := Hc0.out; omega), if_neg Hl.out]
        simp [markL, bodyL, eTl.out]
theorem text_1 (hd : Held) (fn : ByteArray) (copy : Int) (name : ByteArray) (n cell : Int) (w : World) (hm : mayB ⟨1, fn, copy, name, n, cell⟩ = true) (htab : Tab w) :
    Calls Tryz.prog 120 #[Nd.val ⟨1, fn, copy, name, n, cell⟩] w (TextPost ⟨1, fn, copy, name, n, cell⟩ w) :=
  text_A 1 (by simp) hd fn copy name n cell w hm htab
theorem text_4 (hd : Held) (fn : ByteArray) (copy : Int) (name : ByteArray) (n cell : Int) (w : World) (hm : mayB ⟨4, fn, copy, name, n, cell⟩ = true) (htab : Tab w) :
    Calls Tryz.prog 120 #[Nd.val ⟨4, fn, copy, name, n, cell⟩] w (TextPost ⟨4, fn, copy, name, n, cell⟩ w) :=
  text_A 4 (by simp) hd fn copy name n cell w hm htab
theorem text_5 (hd : Held) (fn : ByteArray) (copy : Int) (name : ByteArray) (n cell : Int) (w : World) (hm : mayB ⟨5, fn, copy, name, n, cell⟩ = true) (htab : Tab w) :
    Calls Tryz.prog 120 #[Nd.val ⟨5, fn, copy, name, n, cell⟩] w (TextPost ⟨5, fn, copy, name, n, cell⟩ w) :=
  text_A 5 (by simp) hd fn copy name n cell w hm htab
theorem text_6 (hd : Held) (fn : ByteArray) (copy : Int) (name : ByteArray) (n cell : Int) (w : World) (hm : mayB ⟨6, fn, copy, name, n, cell⟩ = true) (htab : Tab w) :
    Calls Tryz.prog 120 #[Nd.val ⟨6, fn, copy, name, n, cell⟩] w (TextPost ⟨6, fn, copy, name, n, cell⟩ w) :=
  text_A 6 (by simp) hd fn copy name n cell w hm htab
set_option maxRecDepth 100000 in
set_option maxHeartbeats 12000000 in
theorem text_B (kind : Int) (hq : kind = 2 ∨ kind = 3 ∨ kind = 7) (hd : Held) (fn : ByteArray) (copy : Int) (name : ByteArray) (n cell : Int) (w : World) (hm : mayB ⟨kind, fn, copy, name, n, cell⟩ = true) (htab : Tab w) :
    Calls Tryz.prog 120 #[Nd.val ⟨kind, fn, copy, name, n, cell⟩] w (TextPost ⟨kind, fn, copy, name, n, cell⟩ w) := by
  obtain ⟨hsf, hsn⟩ := may_sizes _ hm
  obtain ⟨hcp, hce, _⟩ := may_bounds _ hm
  have hn1 : 0 ≤ n ∧ n ≤ 268435456 := may_n _ hm hq
  have hsf1 : fn.size ≤ 16 := hsf
  have hsn1 : name.size ≤ 16 := hsn
  have hcp1 : 0 ≤ copy ∧ copy ≤ 268435456 := hcp
  have hce1 : -1 ≤ cell ∧ cell ≤ 268435456 := hce
  clear hsf hsn hcp hce
  have Hmay : Hid (∀ w, Calls Tryz.prog 145 #[.agg #[.int .i64 kind, .string fn, .int .i64 copy, .string name, .int .i64 n, .int .i64 cell]] w fun e w' => e = .returned (.bool true) ∧ Below w.heap.size w w') := Lib.hid (fun w => by
    have := may_any hd ⟨kind, fn, copy, name, n, cell⟩ w (by show name.size ≤ maxLen; unfold maxLen; omega) (by show fn.size ≤ maxLen; unfold maxLen; omega)
    rw [hm] at this
    exact this)
  have Hm := Lib.hid hm
  clear hm hd
  obtain ⟨Tc, eTc, sTc, hTc⟩ := text_of copy hcp1.1 hcp1.2
  have eTc := Lib.hid eTc
  have hTc := Lib.hid hTc
  obtain ⟨Tn, eTn, sTn, hTn⟩ := text_of n hn1.1 hn1.2
  have eTn := Lib.hid eTn
  have hTn := Lib.hid hTn
  have Hnew : Hid (Six ⟨kind, fn, copy, name, n, cell⟩ w.heap.size (w.alloc (.cells #[.int .i64 kind, .string fn, .int .i64 copy, .string name, .int .i64 n, .int .i64 cell] 115))) := Lib.hid (Six.new ⟨kind, fn, copy, name, n, cell⟩ w _)
  have hb0 : Below w.heap.size w (w.alloc (.cells #[.int .i64 kind, .string fn, .int .i64 copy, .string name, .int .i64 n, .int .i64 cell] 115)) := (Below.refl _ _).alloc (Nat.le_refl _) _
  rcases hq with rfl | rfl | rfl
  all_goals
    have Htab := Lib.hid htab
    clear htab
    unfold Nd.val Nd.cells
    by_cases hl : cell = -1
    · have hlb : (cell != -1) = false := by rw [hl]; rfl
      have Hl := Lib.hid hl
      clear hl
      by_cases hc0 : 0 < copy
      · have Hc0 := Lib.hid hc0
        go_enter Tryz.func120, Tryz.ntmps120
        go_wp2_with fail
        refine (Hmay.out _).mono ?_
        rintro e w1 ⟨rfl, b1⟩
        have Hs1 := Lib.hid (Hnew.out.on b1)
        have hb1 := below_on hb0 b1
        obtain ⟨k0, k1, k2, k3, k4, k5⟩ := Hs1.out
        clear b1
        go_wp2_with fail
        refine (hTc.out _ (tab_below Htab.out hb1)).mono ?_
        rintro e w2 ⟨rfl, b2⟩
        have Hs2 := Lib.hid (Hs1.out.on b2)
        have hb2 := below_on hb1 b2
        clear k0 k1 k2 k3 k4 k5 b2
        obtain ⟨k0, k1, k2, k3, k4, k5⟩ := Hs2.out
        go_wp2_with fail
        refine (hTn.out _ (tab_below Htab.out hb2)).mono ?_
        rintro e w3 ⟨rfl, b3⟩
        have Hs3 := Lib.hid (Hs2.out.on b3)
        have hb3 := below_on hb2 b3
        clear k0 k1 k2 k3 k4 k5 b3
        obtain ⟨k0, k1, k2, k3, k4, k5⟩ := Hs3.out
        go_wp2_with fail
        go_ret2
        refine textPost_mk Hm.out ?_ hb3
        unfold textL copyL cellL
        rw [if_pos Hc0.out, if_pos Hl.out]
        simp [markL, bodyL, eTc.out, eTn.out]
      · have Hc0 := Lib.hid hc0
        go_enter Tryz.func120, Tryz.ntmps120
        go_wp2_with fail
        refine (Hmay.out _).mono ?_
        rintro e w1 ⟨rfl, b1⟩
        have Hs1 := Lib.hid (Hnew.out.on b1)
        have hb1 := below_on hb0 b1
        obtain ⟨k0, k1, k2, k3, k4, k5⟩ := Hs1.out
        clear b1
        go_wp2_with fail
        refine (hTn.out _ (tab_below Htab.out hb1)).mono ?_
        rintro e w2 ⟨rfl, b2⟩
        have Hs2 := Lib.hid (Hs1.out.on b2)
        have hb2 := below_on hb1 b2
        clear k0 k1 k2 k3 k4 k5 b2
        obtain ⟨k0, k1, k2, k3, k4, k5⟩ := Hs2.out
        go_wp2_with fail
        go_ret2
        refine textPost_mk Hm.out ?_ hb2
        unfold textL copyL cellL
        rw [if_neg (show ¬ 0 < copy by have := Hc0.out; omega), if_pos Hl.out]
        simp [markL, bodyL, eTn.out]
    · have hlb : (cell != -1) = true := by rw [bne_iff_ne]; exact hl
      obtain ⟨Tl, eTl, sTl, hTl⟩ := text_of cell (by omega) hce1.2
      have eTl := Lib.hid eTl
      have hTl := Lib.hid hTl
      have Hl := Lib.hid hl
      clear hl
      by_cases hc0 : 0 < copy
      · have Hc0 := Lib.hid hc0
        go_enter Tryz.func120, Tryz.ntmps120
        go_wp2_with fail
        refine (Hmay.out _).mono ?_
        rintro e w1 ⟨rfl, b1⟩
        have Hs1 := Lib.hid (Hnew.out.on b1)
        have hb1 := below_on hb0 b1
        obtain ⟨k0, k1, k2, k3, k4, k5⟩ := Hs1.out
        clear b1
        go_wp2_with fail
        refine (hTc.out _ (tab_below Htab.out hb1)).mono ?_
        rintro e w2 ⟨rfl, b2⟩
        have Hs2 := Lib.hid (Hs1.out.on b2)
        have hb2 := below_on hb1 b2
        clear k0 k1 k2 k3 k4 k5 b2
        obtain ⟨k0, k1, k2, k3, k4, k5⟩ := Hs2.out
        go_wp2_with fail
        refine (hTn.out _ (tab_below Htab.out hb2)).mono ?_
        rintro e w3 ⟨rfl, b3⟩
        have Hs3 := Lib.hid (Hs2.out.on b3)
        have hb3 := below_on hb2 b3
        clear k0 k1 k2 k3 k4 k5 b3
        obtain ⟨k0, k1, k2, k3, k4, k5⟩ := Hs3.out
        go_wp2_with fail
        refine (hTl.out _ (tab_below Htab.out hb3)).mono ?_
        rintro e w4 ⟨rfl, b4⟩
        have Hs4 := Lib.hid (Hs3.out.on b4)
        have hb4 := below_on hb3 b4
        clear k0 k1 k2 k3 k4 k5 b4
        obtain ⟨k0, k1, k2, k3, k4, k5⟩ := Hs4.out
        go_wp2_with fail
        go_ret2
        refine textPost_mk Hm.out ?_ hb4
        unfold textL copyL cellL
        rw [if_pos Hc0.out, if_neg Hl.out]
        simp [markL, bodyL, eTc.out, eTn.out, eTl.out]
      · have Hc0 := Lib.hid hc0
        go_enter Tryz.func120, Tryz.ntmps120
        go_wp2_with fail
        refine (Hmay.out _).mono ?_
        rintro e w1 ⟨rfl, b1⟩
        have Hs1 := Lib.hid (Hnew.out.on b1)
        have hb1 := below_on hb0 b1
        obtain ⟨k0, k1, k2, k3, k4, k5⟩ := Hs1.out
        clear b1
        go_wp2_with fail
        refine (hTn.out _ (tab_below Htab.out hb1)).mono ?_
        rintro e w2 ⟨rfl, b2⟩
        have Hs2 := Lib.hid (Hs1.out.on b2)
        have hb2 := below_on hb1 b2
        clear k0 k1 k2 k3 k4 k5 b2
        obtain ⟨k0, k1, k2, k3, k4, k5⟩ := Hs2.out
        go_wp2_with fail
        refine (hTl.out _ (tab_below Htab.out hb2)).mono ?_
        rintro e w3 ⟨rfl, b3⟩
        have Hs3 := Lib.hid (Hs2.out.on b3)
        have hb3 := below_on hb2 b3
        clear k0 k1 k2 k3 k4 k5 b3
        obtain ⟨k0, k1, k2, k3, k4, k5⟩ := Hs3.out
        go_wp2_with fail
        go_ret2
        refine textPost_mk Hm.out ?_ hb3
        unfold textL copyL cellL
        rw [if_neg (show ¬ 0 < copy by have := Hc0.out; omega), if_neg Hl.out]
        simp [markL, bodyL, eTn.out, eTl.out]
theorem text_2 (hd : Held) (fn : ByteArray) (copy : Int) (name : ByteArray) (n cell : Int) (w : World) (hm : mayB ⟨2, fn, copy, name, n, cell⟩ = true) (htab : Tab w) :
    Calls Tryz.prog 120 #[Nd.val ⟨2, fn, copy, name, n, cell⟩] w (TextPost ⟨2, fn, copy, name, n, cell⟩ w) :=
  text_B 2 (by simp) hd fn copy name n cell w hm htab
theorem text_3 (hd : Held) (fn : ByteArray) (copy : Int) (name : ByteArray) (n cell : Int) (w : World) (hm : mayB ⟨3, fn, copy, name, n, cell⟩ = true) (htab : Tab w) :
    Calls Tryz.prog 120 #[Nd.val ⟨3, fn, copy, name, n, cell⟩] w (TextPost ⟨3, fn, copy, name, n, cell⟩ w) :=
  text_B 3 (by simp) hd fn copy name n cell w hm htab
theorem text_7 (hd : Held) (fn : ByteArray) (copy : Int) (name : ByteArray) (n cell : Int) (w : World) (hm : mayB ⟨7, fn, copy, name, n, cell⟩ = true) (htab : Tab w) :
    Calls Tryz.prog 120 #[Nd.val ⟨7, fn, copy, name, n, cell⟩] w (TextPost ⟨7, fn, copy, name, n, cell⟩ w) :=
  text_B 7 (by simp) hd fn copy name n cell w hm htab
end Go.Proofs.YtlkboeajkgbnaaaGreatDoor.nm
namespace Go.Proofs.YtlkboeajkgbnaaaGreatDoor.nm
open Go.RowKit Go.Sort
theorem text_no (hd : Held) (d : Nd) (w : World) (hm : mayB d = false) (hsn : d.name.size ≤ maxLen) (hsf : d.fn.size ≤ maxLen) :
    Calls Tryz.prog 120 #[d.val] w (TextPost d w) := by
  have H := Lib.hid (fun w => may_any hd d w hsn hsf)
  rw [hm] at H
  unfold BPost at H
  have Hp : Hid (∀ w', Below w.heap.size w w' → TextPost d w (.returned (.tuple #[.string ⟨#[]⟩, .int .i64 11])) w') := Lib.hid fun w' hb => ⟨by unfold txt terr; rw [hm]; rfl, hb⟩
  obtain ⟨kind, fn, copy, name, n, cell⟩ := d
  unfold Nd.val Nd.cells at H ⊢
  clear hm hsn hsf hd
  go_enter Tryz.func120, Tryz.ntmps120
  go_wp2_with fail
  refine (H.out _).mono ?_
  rintro e w1 ⟨rfl, b1⟩
  go_wp2_with fail
  go_ret2
  exact Hp.out _ (below_on ((Below.refl _ _).alloc (Nat.le_refl _) _) b1)
theorem text_any (hd : Held) (d : Nd) (w : World) (hsn : d.name.size ≤ maxLen) (hsf : d.fn.size ≤ maxLen) (htab : Tab w) :
    Calls Tryz.prog 120 #[d.val] w (TextPost d w) := by
  rcases hm : mayB d with _ | _
  · exact text_no hd d w hm hsn hsf
  · obtain ⟨_, _, h1, h7⟩ := may_bounds d hm
    obtain ⟨kind, fn, copy, name, n, cell⟩ := d
    have h1' : 1 ≤ kind := h1
    have h7' : kind ≤ 7 := h7
    rcases (by omega : kind = 1 ∨ kind = 2 ∨ kind = 3 ∨ kind = 4 ∨ kind = 5 ∨ kind = 6 ∨ kind = 7) with rfl | rfl | rfl | rfl | rfl | rfl | rfl
    · exact text_1 hd _ _ _ _ _ w hm htab
    · exact text_2 hd _ _ _ _ _ w hm htab
    · exact text_3 hd _ _ _ _ _ w hm htab
    · exact text_4 hd _ _ _ _ _ w hm htab
    · exact text_5 hd _ _ _ _ _ w hm htab
    · exact text_6 hd _ _ _ _ _ w hm htab
    · exact text_7 hd _ _ _ _ _ w hm htab
def headI (s : ByteArray) : Int := ((s.data.toList.headD 0).toNat : Int)
def kindS (s : ByteArray) : Int :=
  if s.size = 0 then 5
  else if headI s = 46 then 1 else if headI s = 36 then 2 else if headI s = 64 then 3 else if headI s = 40 then 4 else if headI s = 37 then 6 else if headI s = 35 then 7 else 5
theorem kind_any (s : ByteArray) (w : World) (hs : s.size ≤ maxLen) : Calls Tryz.prog 119 #[.string s] w fun e w' => e = .returned (.int .i64 (kindS s)) ∧ w = w' := by
  unfold maxLen at hs
  by_cases h0 : s.size = 0
  · have he : s.toList = [] := dg.empty_list s h0
    have Hk : Hid (kindS s = 5) := Lib.hid (by unfold kindS; rw [if_pos h0])
    clear h0
    go_enter Tryz.func119, Tryz.ntmps119
    go_wp2_with fail
    go_ret
    exact ⟨by rw [Hk.out]; rfl, rfl⟩
  · have he : s.toList.isEmpty = false := dg.not_empty s h0
    have hz : 0 < s.size := by omega
    have hh : headI s = (s[0].toNat : Int) := by unfold headI; rw [dg.headD_zero s hz]
    have Hk : Hid (kindS s = (if (s[0].toNat : Int) = 46 then 1 else if (s[0].toNat : Int) = 36 then 2 else if (s[0].toNat : Int) = 64 then 3 else if (s[0].toNat : Int) = 40 then 4 else if (s[0].toNat : Int) = 37 then 6 else if (s[0].toNat : Int) = 35 then 7 else 5)) := Lib.hid (by unfold kindS; rw [if_neg h0, hh])
    clear h0 hh
    rcases (by omega : (s[0].toNat : Int) = 46 ∨ (s[0].toNat : Int) = 36 ∨ (s[0].toNat : Int) = 64 ∨ (s[0].toNat : Int) = 40 ∨ (s[0].toNat : Int) = 37 ∨ (s[0].toNat : Int) = 35 ∨ ((s[0].toNat : Int) ≠ 46 ∧ (s[0].toNat : Int) ≠ 36 ∧ (s[0].toNat : Int) ≠ 64 ∧ (s[0].toNat : Int) ≠ 40 ∧ (s[0].toNat : Int) ≠ 37 ∧ (s[0].toNat : Int) ≠ 35)) with h | h | h | h | h | h | ⟨h1, h2, h3, h4, h5, h6⟩
    all_goals first
      | (have Hv : Hid (kindS s = 5) := Lib.hid (by rw [Hk.out, if_neg h1, if_neg h2, if_neg h3, if_neg h4, if_neg h5, if_neg h6])
         have b1 := beq_eq_false_iff_ne.2 h1
         have b2 := beq_eq_false_iff_ne.2 h2
         have b3 := beq_eq_false_iff_ne.2 h3
         have b4 := beq_eq_false_iff_ne.2 h4
         have b5 := beq_eq_false_iff_ne.2 h5
         have b6 := beq_eq_false_iff_ne.2 h6
         clear h1 h2 h3 h4 h5 h6 Hk
         go_enter Tryz.func119, Tryz.ntmps119
         go_wp2_with fail
         go_ret
         exact ⟨by rw [Hv.out]; rfl, rfl⟩)
      | (have hv := Hk.out
         rw [h] at hv
         have Hv := Lib.hid hv
         clear Hk hv
         go_enter Tryz.func119, Tryz.ntmps119
         go_wp2_with fail
         go_ret
         exact ⟨by rw [Hv.out]; rfl, rfl⟩)
def behS (s : ByteArray) (mark : Int) (absent : Int) : Int × ByteArray :=
  if s.size = 0 ∨ headI s ≠ mark then (absent, s)
  else if (dg.rd ((s.extract 1 s.size).extract 0 (dg.splN (s.extract 1 s.size)))).2 = 0 then
    ((dg.rd ((s.extract 1 s.size).extract 0 (dg.splN (s.extract 1 s.size)))).1, (s.extract 1 s.size).extract (dg.splN (s.extract 1 s.size)) (s.extract 1 s.size).size)
  else (absent, ⟨#[]⟩)
def BehPost (s : ByteArray) (mark absent : Int) (w : World) (e : Ending) (w' : World) : Prop := e = .returned (.tuple #[.int .i64 (behS s mark absent).1, .string (behS s mark absent).2]) ∧ ∃ n, w' = w.drewN n
theorem ext_le (s : ByteArray) (a b : Nat) : (s.extract a b).size ≤ s.size := by simp; omega
set_option maxRecDepth 100000 in
theorem behind_any (s : ByteArray) (mark absent : Int) (w : World) (hs : s.size ≤ maxLen) :
    Calls Tryz.prog 118 #[.string s, .int .u8 mark, .int .i64 absent] w (BehPost s mark absent w) := by
  by_cases h0 : s.size = 0
  · have he : s.toList = [] := dg.empty_list s h0
    have Hb : Hid (behS s mark absent = (absent, s)) := Lib.hid (by unfold behS; rw [if_pos (Or.inl h0)])
    clear h0
    go_enter Tryz.func118, Tryz.ntmps118
    go_wp2_with fail
    go_ret2
    exact ⟨by rw [Hb.out]; rfl, 0, rfl⟩
  · have he : s.toList.isEmpty = false := dg.not_empty s h0
    have hz : 0 < s.size := by omega
    have hh : headI s = (s[0].toNat : Int) := by unfold headI; rw [dg.headD_zero s hz]
    by_cases hmk : (s[0].toNat : Int) = mark
    · have hne : ((s[0].toNat : Int) != mark) = false := by rw [hmk]; simp
      have hb1 : ¬ (s.size = 0 ∨ headI s ≠ mark) := by rintro (h | h); exact h0 h; exact h (by rw [hh]; exact hmk)
      have hle1 := ext_le s 1 s.size
      have hsp := dg.splN_le (s.extract 1 s.size)
      have Hbe : Hid (behS s mark absent = if (dg.rd ((s.extract 1 s.size).extract 0 (dg.splN (s.extract 1 s.size)))).2 = 0 then ((dg.rd ((s.extract 1 s.size).extract 0 (dg.splN (s.extract 1 s.size)))).1, (s.extract 1 s.size).extract (dg.splN (s.extract 1 s.size)) (s.extract 1 s.size).size) else (absent, ⟨#[]⟩)) := Lib.hid (by unfold behS; rw [if_neg hb1])
      have Hsp := Lib.hid (fun w => dg.split_any (s.extract 1 s.size) w (by omega))
      have Hrd := Lib.hid (fun w => dg.read_any ((s.extract 1 s.size).extract 0 (dg.splN (s.extract 1 s.size))) w (by have := ext_le (s.extract 1 s.size) 0 (dg.splN (s.extract 1 s.size)); omega))
      unfold dg.SplitPost at Hsp
      generalize (dg.rd ((s.extract 1 s.size).extract 0 (dg.splN (s.extract 1 s.size)))).1 = rv at *
      generalize (dg.rd ((s.extract 1 s.size).extract 0 (dg.splN (s.extract 1 s.size)))).2 = re at *
      generalize (s.extract 1 s.size).extract 0 (dg.splN (s.extract 1 s.size)) = t1 at *
      generalize (s.extract 1 s.size).extract (dg.splN (s.extract 1 s.size)) (s.extract 1 s.size).size = t2 at *
      clear h0 hh hmk hb1 hsp hle1
      unfold maxLen at hs
      by_cases hre : re = 0
      · have Hb : Hid (behS s mark absent = (rv, t2)) := Lib.hid (by rw [Hbe.out, if_pos hre])
        have hreb : (re != 0) = false := by rw [hre]; rfl
        clear Hbe hre
        go_enter Tryz.func118, Tryz.ntmps118
        go_wp2_with fail
        refine (Hsp.out _).mono ?_
        rintro e w' ⟨rfl, q, rfl⟩
        go_wp2_with fail
        refine (Hrd.out _).mono ?_
        rintro e w' ⟨rfl, rfl⟩
        go_wp2_with fail
        go_ret2
        exact ⟨by rw [Hb.out]; rfl, q, rfl⟩
      · have Hb : Hid (behS s mark absent = (absent, ⟨#[]⟩)) := Lib.hid (by rw [Hbe.out, if_neg hre])
        have hreb : (re != 0) = true := by rw [bne_iff_ne]; exact hre
        clear Hbe hre
        go_enter Tryz.func118, Tryz.ntmps118
        go_wp2_with fail
        refine (Hsp.out _).mono ?_
        rintro e w' ⟨rfl, q, rfl⟩
        go_wp2_with fail
        refine (Hrd.out _).mono ?_
        rintro e w' ⟨rfl, rfl⟩
        go_wp2_with fail
        go_ret2
        exact ⟨by rw [Hb.out]; rfl, q, rfl⟩
    · have hne : ((s[0].toNat : Int) != mark) = true := by rw [bne_iff_ne]; exact hmk
      have Hb : Hid (behS s mark absent = (absent, s)) := Lib.hid (by unfold behS; rw [if_pos (Or.inr (by rw [hh]; exact hmk))])
      clear h0 hh hmk
      unfold maxLen at hs
      go_enter Tryz.func118, Tryz.ntmps118
      go_wp2_with fail
      go_ret2
      exact ⟨by rw [Hb.out]; rfl, 0, rfl⟩
end Go.Proofs.YtlkboeajkgbnaaaGreatDoor.nm
