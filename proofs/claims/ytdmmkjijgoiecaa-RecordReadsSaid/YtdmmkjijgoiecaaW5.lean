import Derived.Test.YtdmmkjijgoiecaaWRe7
set_option linter.all false
/-
  record: a pool of up to a million texts; texts too many or too long.
-/
namespace Go.Proofs.Ytdmmkjijgoiecaa.re
open Go.RowKit Go.Sort Go.Shelf Go.Proofs.Ytdmmkjijgoiecaa.mem Go.Proofs.Ytdmmkjijgoiecaa.vr Go.Proofs.Ytdmmkjijgoiecaa.po Go.Proofs.Ytdmmkjijgoiecaa.inn

def OfPost (w : World) (m : List (List UInt8)) (e : Ending) (w' : World) : Prop := ∃ b B cap, e = .returned (.pointer (some ⟨b, 0, none⟩)) ∧ Pl w' b B cap m ∧ Below w.heap.size w w'

theorem of_end {w w1 : World} {ss : List (List UInt8)} {B : Option Addr} {cap : Nat} (b1 : Below w.heap.size w w1) (r1 : Rd w1 B ((rsS ss).map encStr)) : OfPost w (rsS ss) (.returned (.pointer (some ⟨w1.heap.size, 0, none⟩))) (w1.alloc (.cells #[.slice B (rsS ss).length cap] 63)) :=
  ⟨_, B, cap, rfl, ⟨Box.new w1 _ _, r1.alloc _⟩, b1.alloc b1.size _⟩

set_option maxRecDepth 100000 in
theorem pof_any (w : World) (A : Option Addr) (c : Nat) (ss : List (List UInt8)) (h : Rd w A (ss.map encStr)) (hm : ss.length ≤ 1000000) :
    Calls Try.prog 11 #[.slice A ss.length c] w (OfPost w (rsS ss)) := by
  have K := Lib.hid (inn.sorted_any w A c ss h hm)
  have E := Lib.hid (fun (w1 : World) B cap (b1 : Below w.heap.size w w1) (r1 : Rd w1 B ((rsS ss).map encStr)) => of_end (cap := cap) b1 r1)
  clear h
  go_enter Try.func11, Try.ntmps11
  go_wp2_with fail
  refine K.out.mono ?_
  rintro e w1 ⟨B, cap, rfl, b1, r1⟩
  have E1 := Lib.hid (E.out w1 B cap b1 r1)
  clear K b1 r1 E
  go_wp2_with fail
  go_ret
  exact E1.out

set_option maxRecDepth 100000 in
theorem rof_any (w : World) (A : Option Addr) (cap : Nat) (l : List (List UInt8)) (h : Rd w A (l.map encStr)) (hm : l.length ≤ 1000000) :
    Calls Try.prog 9 #[.slice A l.length cap] w (IPost w (rsS l)) := by
  have K := Lib.hid (inn.rsorted_any w A cap l h hm)
  clear h
  go_enter Try.func9, Try.ntmps9
  go_wp2_with fail
  refine K.out.mono ?_
  rintro e w1 ⟨B, c1, rfl, s1, b1⟩
  have S1 := Lib.hid s1
  have B1 := Lib.hid b1
  clear s1 b1
  go_wp2_with fail
  go_ret
  exact ⟨B, c1, rfl, S1.out, B1.out⟩

def GTPost (w : World) (l : List (List UInt8)) (N : Nat) (e : Ending) (w' : World) : Prop := ∃ r, e = .returned (.bool r) ∧ w = w' ∧ (r = false → l.length ≤ N ∧ ∀ s ∈ l, s.length ≤ 100)

theorem len_take {l : List (List UInt8)} {k : Nat} (hk : k < l.length) (h : ∀ s ∈ l.take k, s.length ≤ 100) (h2 : l[k].length ≤ 100) : ∀ s ∈ l.take (k + 1), s.length ≤ 100 := fun s hs => by
  rw [List.take_succ_eq_append_getElem hk, List.mem_append, List.mem_singleton] at hs
  rcases hs with hs | rfl
  · exact h s hs
  · exact h2

theorem rd_at {w : World} {A : Option Addr} {l : List (List UInt8)} (h : Rd w A (l.map encStr)) {k : Nat} (hk : k < l.length) : ∃ g o, A = some ⟨g, o, none⟩ ∧ g < w.heap.size ∧ w.cell? ⟨g, o + k, none⟩ = some (encStr l[k]) := by
  obtain ⟨g, o, e, hl, hc⟩ := h (by rw [List.length_map]; omega)
  refine ⟨g, o, e, hl, ?_⟩
  rw [hc k (by rw [List.length_map]; exact hk), List.getElem_map]

set_option maxRecDepth 100000 in
theorem greatT_any (w : World) (A : Option Addr) (cap : Nat) (l : List (List UInt8)) (h : Rd w A (l.map encStr)) (hm : l.length ≤ maxLen) :
    Calls Try.prog 7 #[.slice A l.length cap] w (GTPost w l 60) := by
  have Hh := Lib.hid h
  unfold maxLen at hm
  clear h
  unfold GTPost
  obtain ⟨n, hN⟩ : ∃ n, Hid (n = l.length) := ⟨_, Lib.hid rfl⟩
  rw [← hN.out] at hm ⊢
  go_enter Try.func7, Try.ntmps7
  go_wp2_with fail
  go_loopw [3] (fun i wr => ∃ k : Nat, k ≤ n ∧ k ≤ 60 ∧ i = .int .i64 k ∧ Hid (∀ s ∈ l.take k, s.length ≤ 100) ∧ w = wr) (fun i _ => n - (intOf i).toNat)
  case atStart => exact ⟨0, by omega, by omega, rfl, Lib.hid (fun s hs => by simp at hs), rfl⟩
  case round =>
    obtain ⟨k, hk, hk6, rfl, hG, rfl⟩ := hrel
    by_cases hkl : k < n
    · have e1 : decide ((k : Int) < (n : Int)) = true := decide_eq_true (by omega)
      have hkx : k < l.length := by rw [← hN.out]; exact hkl
      by_cases h6 : 60 ≤ k
      · have e2 : decide ((60 : Int) ≤ (k : Int)) = true := decide_eq_true (by omega)
        go_wp2_with fail
        go_ret
        exact ⟨true, rfl, rfl, fun h => by cases h⟩
      · have e2 : decide ((60 : Int) ≤ (k : Int)) = false := decide_eq_false (by omega)
        obtain ⟨g, o, rfl, hg, c3⟩ := rd_at Hh.out hkx
        have hG2 := Lib.hid (len_take hkx hG.out)
        clear hG
        unfold encStr at c3
        generalize l[k] = tx at *
        by_cases h100 : 100 < tx.length
        · have e3 : decide ((100 : Int) < (tx.length : Int)) = true := decide_eq_true (by omega)
          go_wp2_with fail
          go_ret
          exact ⟨true, rfl, rfl, fun h => by cases h⟩
        · have e3 : decide ((100 : Int) < (tx.length : Int)) = false := decide_eq_false (by omega)
          have hG3 := Lib.hid (hG2.out (by omega))
          clear hG2
          go_wp2_with fail
          go_roundw
          case rel => exact ⟨k + 1, by omega, by omega, by go_num, hG3, trivial⟩
          case measure => simp [intOf]; omega
    · obtain rfl : k = n := by omega
      have e1 : decide ((k : Int) < (k : Int)) = false := decide_eq_false (by omega)
      have hall : Hid (∀ s ∈ l, s.length ≤ 100) := Lib.hid (by
        have := hG.out
        rwa [List.take_of_length_le (by rw [hN.out]; exact Nat.le_refl _)] at this)
      go_wp2_with fail
      go_ret
      exact ⟨false, rfl, rfl, fun _ => ⟨hk6, hall.out⟩⟩

set_option maxRecDepth 100000 in
theorem greatK_any (w : World) (A : Option Addr) (cap : Nat) (l : List (List UInt8)) (h : Rd w A (l.map encStr)) (hm : l.length ≤ maxLen) (h2 : l.length ≤ 200) :
    Calls Try.prog 20 #[.slice A l.length cap] w (GTPost w l 200) := by
  have Hh := Lib.hid h
  unfold maxLen at hm
  clear h
  unfold GTPost
  obtain ⟨n, hN⟩ : ∃ n, Hid (n = l.length) := ⟨_, Lib.hid rfl⟩
  rw [← hN.out] at hm h2 ⊢
  go_enter Try.func20, Try.ntmps20
  go_wp2_with fail
  go_loopw [3] (fun i wr => ∃ k : Nat, k ≤ n ∧ i = .int .i64 k ∧ Hid (∀ s ∈ l.take k, s.length ≤ 100) ∧ w = wr) (fun i _ => n - (intOf i).toNat)
  case atStart => exact ⟨0, by omega, rfl, Lib.hid (fun s hs => by simp at hs), rfl⟩
  case round =>
    obtain ⟨k, hk, rfl, hG, rfl⟩ := hrel
    by_cases hkl : k < n
    · have e1 : decide ((k : Int) < (n : Int)) = true := decide_eq_true (by omega)
      have hkx : k < l.length := by rw [← hN.out]; exact hkl
      obtain ⟨g, o, rfl, hg, c3⟩ := rd_at Hh.out hkx
      have hG2 := Lib.hid (len_take hkx hG.out)
      clear hG
      unfold encStr at c3
      generalize l[k] = tx at *
      by_cases h100 : 100 < tx.length
      · have e3 : decide ((100 : Int) < (tx.length : Int)) = true := decide_eq_true (by omega)
        go_wp2_with fail
        go_ret
        exact ⟨true, rfl, rfl, fun h => by cases h⟩
      · have e3 : decide ((100 : Int) < (tx.length : Int)) = false := decide_eq_false (by omega)
        have hG3 := Lib.hid (hG2.out (by omega))
        clear hG2
        go_wp2_with fail
        go_roundw
        case rel => exact ⟨k + 1, by omega, by go_num, hG3, trivial⟩
        case measure => simp [intOf]; omega
    · obtain rfl : k = n := by omega
      have e1 : decide ((k : Int) < (k : Int)) = false := decide_eq_false (by omega)
      have hall : Hid (∀ s ∈ l, s.length ≤ 100) := Lib.hid (by
        have := hG.out
        rwa [List.take_of_length_le (by rw [hN.out]; exact Nat.le_refl _)] at this)
      go_wp2_with fail
      go_ret
      exact ⟨false, rfl, rfl, fun _ => ⟨h2, hall.out⟩⟩
end Go.Proofs.Ytdmmkjijgoiecaa.re

/-
  record: a summary as it comes in.
-/
namespace Go.Proofs.Ytdmmkjijgoiecaa.re
open Go.RowKit Go.ChangeShapes Go.WideShapes Go.Proofs.Ytdmmkjijgoiecaa.mem Go.Proofs.Ytdmmkjijgoiecaa.sy

theorem cSu : Try.prog.cellsOf 29 = 7 := by kernel_rfl
theorem uSu : Try.prog.underlying 29 = some (.struct (Try.prog.fieldsOf 29)) := by kernel_rfl
theorem fSu : (Try.prog.fieldsOf 29).toList.map (fun f => (f.type, f.offset)) = [(9, 0), (22, 1), (22, 2), (22, 3), (27, 4)] := by kernel_rfl

structure MB (B : Nat) (x : Mk) : Prop where
  t : x.tag.size ≤ B
structure OB (B : Nat) (x : SO) : Prop where
  n : x.name.size ≤ B
  k : x.kinds.size ≤ B
  l : x.marks.length * 24 ≤ B
  m : ∀ y ∈ x.marks, y.tag.size ≤ B
structure FB (B : Nat) (x : SF) : Prop where
  n : x.name.size ≤ B
  k : x.kinds.size ≤ B
  r : x.ret.size ≤ B
structure CB (B : Nat) (x : SC) : Prop where
  a : x.a.size ≤ B
  b : x.b.size ≤ B
  t : x.tag.size ≤ B
  l : x.args.length * 16 ≤ B
  g : ∀ y ∈ x.args, y.size ≤ B

/-- a summary, and how much it can hold -/
structure SumB (B : Nat) (u : MU) : Prop where
  n : u.name.size ≤ B
  g : u.gives.length ≤ maxLen ∧ (∀ s ∈ u.gives, s.size ≤ B) ∧ u.gives.length * 16 ≤ B
  w : u.wants.length ≤ maxLen ∧ (∀ s ∈ u.wants, s.size ≤ B) ∧ u.wants.length * 16 ≤ B
  k : u.keeps.length ≤ maxLen ∧ (∀ s ∈ u.keeps, s.size ≤ B) ∧ u.keeps.length * 16 ≤ B
  os : ∀ x ∈ u.s.os, OB B x.o
  fs : ∀ x ∈ u.s.fs, FB B x
  cs : ∀ x ∈ u.s.cs, CB B x.c

section
variable {H : Type} {enc : TypeId × Value → H} {W : World} {B : Nat}

theorem bMk : Try.prog.bytesOf 98 = 24 := by kernel_rfl

theorem str_elB {n : Nat} {u : Value} {y : DataW H × List MemPlace} (h : DataW.trod enc Try.prog W 0 (fun _ => true) true n 9 [u] = some y) (hw : ∀ m ∈ y.1.weights Try.prog 9, m ≤ B) : ∃ a : ByteArray, u = .string a ∧ a.size ≤ maxLen ∧ a.size ≤ B := by
  obtain ⟨a, e, hd, hs⟩ := DataW.trod_string Try.underlying9 h
  simp only [List.cons.injEq, and_true] at e
  refine ⟨a, e, hs, ?_⟩
  rw [hd] at hw
  have := hw a.data.toList.length (by simp [DataW.weights])
  rw [Array.length_toList] at this
  exact this

theorem mk_elB (n : Nat) (cs : List Value) (y : DataW H × List MemPlace) (h : DataW.trod enc Try.prog W 0 (fun _ => true) true n 98 cs = some y) (hl : cs.length = 2) (hw : ∀ m ∈ y.1.weights Try.prog 98, m ≤ B) :
    ∃ x : Mk, cs = mkRow x ∧ (x.tag.size ≤ maxLen ∧ (Lit.int .i64 x.at_).wf = true) ∧ MB B x := by
  match cs, hl with
  | [c0, c1], _ =>
    obtain ⟨ys, m, _, hx, _, hl2, hf⟩ := DataW.trod_struct sy.uMk h
    rw [hx] at hw
    obtain ⟨y0, h0, w0⟩ := fld fMk hl2 hf sy.uMk hw 0 3 0 rfl
    obtain ⟨y1, h1, w1⟩ := fld fMk hl2 hf sy.uMk hw 1 9 1 rfl
    rw [cInt] at h0
    rw [cStr] at h1
    obtain ⟨a0, rfl, s0⟩ := int_el (u := c0) h0
    obtain ⟨a1, rfl, s1, b1⟩ := str_elB (u := c1) h1 w1
    exact ⟨⟨a0, a1⟩, rfl, ⟨s1, s0⟩, ⟨b1⟩⟩

theorem obj_elB (n : Nat) (cs : List Value) (y : DataW H × List MemPlace) (h : DataW.trod enc Try.prog W 0 (fun _ => true) true n 76 cs = some y) (hl : cs.length = 3) (hw : ∀ m ∈ y.1.weights Try.prog 76, m ≤ B) :
    ∃ x : MO, cs = x.row ∧ MOk W x ∧ OB B x.o := by
  match cs, hl with
  | [c0, c1, c2], _ =>
    obtain ⟨ys, m, _, hx, _, hl2, hf⟩ := DataW.trod_struct uOb h
    rw [hx] at hw
    obtain ⟨y0, h0, w0⟩ := fld fOb hl2 hf uOb hw 0 9 0 rfl
    obtain ⟨y1, h1, w1⟩ := fld fOb hl2 hf uOb hw 1 9 1 rfl
    obtain ⟨y2, h2, w2⟩ := fld fOb hl2 hf uOb hw 2 74 2 rfl
    rw [cStr] at h0 h1
    rw [cMs] at h2
    obtain ⟨a0, rfl, s0, b0⟩ := str_elB (u := c0) h0 w0
    obtain ⟨a1, rfl, s1, b1⟩ := str_elB (u := c1) h1 w1
    have : Inhabited Mk := ⟨⟨0, ⟨#[]⟩⟩⟩
    obtain ⟨A, cap, ms, rfl, ht, hq, hle, hmax, hby⟩ := wide_of (u := c2) (B := B) mkRow _ Try.underlying74 cMk (by decide) (fun _ => rfl) (fun n cs y => mk_elB n cs y) h2 w2
    rw [bMk] at hby
    exact ⟨⟨⟨a0, a1, ms⟩, A, cap⟩, rfl, ⟨s0, s1, ht, Nat.le_trans hle hmax, fun x hx => (hq x hx).1.1, fun x hx => (hq x hx).1.2, hle⟩, ⟨b0, b1, hby, fun x hx => (hq x hx).2.t⟩⟩

theorem fn_elB (n : Nat) (cs : List Value) (y : DataW H × List MemPlace) (h : DataW.trod enc Try.prog W 0 (fun _ => true) true n 80 cs = some y) (hl : cs.length = 3) (hw : ∀ m ∈ y.1.weights Try.prog 80, m ≤ B) :
    ∃ x : SF, cs = fnRow x ∧ FOk x ∧ FB B x := by
  match cs, hl with
  | [c0, c1, c2], _ =>
    obtain ⟨ys, m, _, hx, _, hl2, hf⟩ := DataW.trod_struct uFn h
    rw [hx] at hw
    obtain ⟨y0, h0, w0⟩ := fld fFn hl2 hf uFn hw 0 9 0 rfl
    obtain ⟨y1, h1, w1⟩ := fld fFn hl2 hf uFn hw 1 9 1 rfl
    obtain ⟨y2, h2, w2⟩ := fld fFn hl2 hf uFn hw 2 9 2 rfl
    rw [cStr] at h0 h1 h2
    obtain ⟨a0, rfl, s0, b0⟩ := str_elB (u := c0) h0 w0
    obtain ⟨a1, rfl, s1, b1⟩ := str_elB (u := c1) h1 w1
    obtain ⟨a2, rfl, s2, b2⟩ := str_elB (u := c2) h2 w2
    exact ⟨⟨a0, a1, a2⟩, rfl, ⟨s0, s1, s2⟩, ⟨b0, b1, b2⟩⟩

theorem txt_elB (n : Nat) (cs : List Value) (y : DataW H × List MemPlace) (h : DataW.trod enc Try.prog W 0 (fun _ => true) true n 9 cs = some y) (hl : cs.length = 1) (hw : ∀ m ∈ y.1.weights Try.prog 9, m ≤ B) :
    ∃ x : ByteArray, cs = [.string x] ∧ x.size ≤ maxLen ∧ x.size ≤ B := by
  match cs, hl with
  | [c0], _ =>
    obtain ⟨a0, rfl, s0, b0⟩ := str_elB (u := c0) h hw
    exact ⟨a0, rfl, s0, b0⟩

theorem txts_el {n : Nat} {c : Value} {y : DataW H × List MemPlace} (h : DataW.trod enc Try.prog W 0 (fun _ => true) true n 22 [c] = some y) (hw : ∀ m ∈ y.1.weights Try.prog 22, m ≤ B) :
    ∃ (A : Option Addr) (cap : Nat) (l : List ByteArray), c = .slice A l.length cap ∧ Rd W A (l.map Value.string) ∧ l.length ≤ maxLen ∧ l.length ≤ cap ∧ (∀ s ∈ l, s.size ≤ maxLen ∧ s.size ≤ B) ∧ l.length * 16 ≤ B := by
  have : Inhabited ByteArray := ⟨⟨#[]⟩⟩
  obtain ⟨A, cap, l, rfl, ht, hq, hle, hmax, hby⟩ := wide_of (u := c) (B := B) (fun s : ByteArray => [Value.string s]) _ Try.underlying22 cStr (by decide) (fun _ => rfl) (fun n cs y => txt_elB n cs y) h hw
  rw [bStr] at hby
  exact ⟨A, cap, l, rfl, tbl_rd ht, Nat.le_trans hle hmax, hle, hq, hby⟩

theorem con_elB (n : Nat) (cs : List Value) (y : DataW H × List MemPlace) (h : DataW.trod enc Try.prog W 0 (fun _ => true) true n 84 cs = some y) (hl : cs.length = 6) (hw : ∀ m ∈ y.1.weights Try.prog 84, m ≤ B) :
    ∃ x : MC, cs = x.row ∧ COk W x ∧ CB B x.c := by
  match cs, hl with
  | [c0, c1, c2, c3, c4, c5], _ =>
    obtain ⟨ys, m, _, hx, _, hl2, hf⟩ := DataW.trod_struct uCo h
    rw [hx] at hw
    obtain ⟨y0, h0, w0⟩ := fld fCo hl2 hf uCo hw 0 3 0 rfl
    obtain ⟨y1, h1, w1⟩ := fld fCo hl2 hf uCo hw 1 9 1 rfl
    obtain ⟨y2, h2, w2⟩ := fld fCo hl2 hf uCo hw 2 9 2 rfl
    obtain ⟨y3, h3, w3⟩ := fld fCo hl2 hf uCo hw 3 3 3 rfl
    obtain ⟨y4, h4, w4⟩ := fld fCo hl2 hf uCo hw 4 9 4 rfl
    obtain ⟨y5, h5, w5⟩ := fld fCo hl2 hf uCo hw 5 22 5 rfl
    rw [cStr] at h1 h2 h4
    rw [cInt] at h0 h3
    rw [cSs] at h5
    obtain ⟨a0, rfl, s0⟩ := int_el (u := c0) h0
    obtain ⟨a1, rfl, s1, b1⟩ := str_elB (u := c1) h1 w1
    obtain ⟨a2, rfl, s2, b2⟩ := str_elB (u := c2) h2 w2
    obtain ⟨a3, rfl, s3⟩ := int_el (u := c3) h3
    obtain ⟨a4, rfl, s4, b4⟩ := str_elB (u := c4) h4 w4
    obtain ⟨A, cap, l, rfl, hr, hl, hlc, hq, hby⟩ := txts_el (c := c5) h5 w5
    exact ⟨⟨⟨a0, a1, a2, a3, a4, l⟩, A, cap⟩, rfl, ⟨s1, s2, s4, hr, hl, hlc, fun s hs => (hq s hs).1⟩, ⟨b1, b2, b4, hby, fun s hs => (hq s hs).2⟩⟩

theorem sys_el {n : Nat} {c0 c1 c2 : Value} {y : DataW H × List MemPlace} (h : DataW.trod enc Try.prog W 0 (fun _ => true) true n 27 [c0, c1, c2] = some y) (hw : ∀ m ∈ y.1.weights Try.prog 27, m ≤ B) :
    ∃ s : MS, [c0, c1, c2] = [.slice s.oA s.os.length s.oc, .slice s.fA s.fs.length s.fc, .slice s.cA s.cs.length s.cc] ∧ SysM W s ∧ (∀ x ∈ s.os, OB B x.o) ∧ (∀ x ∈ s.fs, FB B x) ∧ ∀ x ∈ s.cs, CB B x.c := by
  obtain ⟨ys, m, _, hx, _, hl2, hf⟩ := DataW.trod_struct uSy h
  rw [hx] at hw
  obtain ⟨y0, h0, w0⟩ := fld fSy hl2 hf uSy hw 0 23 0 rfl
  obtain ⟨y1, h1, w1⟩ := fld fSy hl2 hf uSy hw 1 24 1 rfl
  obtain ⟨y2, h2, w2⟩ := fld fSy hl2 hf uSy hw 2 25 2 rfl
  rw [cOs] at h0
  rw [cFs] at h1
  rw [cCs] at h2
  have i0 : Inhabited MO := ⟨⟨⟨⟨#[]⟩, ⟨#[]⟩, []⟩, none, 0⟩⟩
  have i1 : Inhabited SF := ⟨⟨⟨#[]⟩, ⟨#[]⟩, ⟨#[]⟩⟩⟩
  have i2 : Inhabited MC := ⟨⟨⟨0, ⟨#[]⟩, ⟨#[]⟩, 0, ⟨#[]⟩, []⟩, none, 0⟩⟩
  obtain ⟨A0, cap0, l0, rfl, t0, q0, le0, m0, _⟩ := wide_of (u := c0) (B := B) MO.row _ Try.underlying23 cOb (by decide) (fun _ => rfl) (fun n cs y => obj_elB n cs y) h0 w0
  obtain ⟨A1, cap1, l1, rfl, t1, q1, le1, m1, _⟩ := wide_of (u := c1) (B := B) fnRow _ Try.underlying24 cFn (by decide) (fun _ => rfl) (fun n cs y => fn_elB n cs y) h1 w1
  obtain ⟨A2, cap2, l2, rfl, t2, q2, le2, m2, _⟩ := wide_of (u := c2) (B := B) MC.row _ Try.underlying25 cCo (by decide) (fun _ => rfl) (fun n cs y => con_elB n cs y) h2 w2
  exact ⟨⟨A0, cap0, l0, A1, cap1, l1, A2, cap2, l2⟩, rfl, ⟨t0, t1, t2, fun x hx => (q0 x hx).1, fun x hx => (q1 x hx).1, fun x hx => (q2 x hx).1, Nat.le_trans le0 m0, Nat.le_trans le1 m1, Nat.le_trans le2 m2⟩, fun x hx => (q0 x hx).2, fun x hx => (q1 x hx).2, fun x hx => (q2 x hx).2⟩

set_option maxRecDepth 100000 in
theorem sum_of {base : Nat} (v : Value) (d : DataW H) (p : List MemPlace) (k : DataW.Trod enc Try.prog W 0 (fun _ => true) true 29 v d p) (o : Value.okWide Try.prog W .any base 29 v) (hw : ∀ m ∈ d.weights Try.prog 29, m ≤ B) :
    ∃ u : MU, v = u.val ∧ SumM W u ∧ SumB B u := by
  obtain ⟨cs, rfl, hcs⟩ := okWide_struct uSu o
  have h3 : cs.size = 7 := hcs.trans cSu
  obtain ⟨l⟩ := cs
  match l, h3 with
  | [c0, c1, c2, c3, c4, c5, c6], _ =>
    obtain ⟨fuel, hk⟩ := k
    obtain ⟨ys, m, _, hx, _, hl2, hf⟩ := DataW.trod_struct uSu hk
    have hd : d = .agg (ys.map (·.1)) := congrArg Prod.fst hx
    rw [hd] at hw
    obtain ⟨y0, h0, w0⟩ := fld fSu hl2 hf uSu hw 0 9 0 rfl
    obtain ⟨y1, h1, w1⟩ := fld fSu hl2 hf uSu hw 1 22 1 rfl
    obtain ⟨y2, h2, w2⟩ := fld fSu hl2 hf uSu hw 2 22 2 rfl
    obtain ⟨y3, h3, w3⟩ := fld fSu hl2 hf uSu hw 3 22 3 rfl
    obtain ⟨y4, h4, w4⟩ := fld fSu hl2 hf uSu hw 4 27 4 rfl
    rw [cStr] at h0
    rw [cSs] at h1 h2 h3
    rw [cSy] at h4
    obtain ⟨a0, rfl, s0, b0⟩ := str_elB (u := c0) h0 w0
    obtain ⟨gA, gc, gl, rfl, gr, g1, _, g2, g3⟩ := txts_el (c := c1) h1 w1
    obtain ⟨wA, wc, wl, rfl, wr, ww1, _, ww2, ww3⟩ := txts_el (c := c2) h2 w2
    obtain ⟨kA, kc, kl, rfl, kr, k1, _, k2, k3⟩ := txts_el (c := c3) h3 w3
    obtain ⟨s, hs, hm, so, sf, sc⟩ := sys_el (c0 := c4) (c1 := c5) (c2 := c6) h4 w4
    simp only [List.cons.injEq, and_true] at hs
    obtain ⟨rfl, rfl, rfl⟩ := hs
    exact ⟨⟨a0, gA, gc, gl, wA, wc, wl, kA, kc, kl, s⟩, rfl, ⟨gr, wr, kr, hm⟩, ⟨b0, ⟨g1, fun s hs => (g2 s hs).2, g3⟩, ⟨ww1, fun s hs => (ww2 s hs).2, ww3⟩, ⟨k1, fun s hs => (k2 s hs).2, k3⟩, so, sf, sc⟩⟩
end
end Go.Proofs.Ytdmmkjijgoiecaa.re

/-
  record: what a summary that is not too much holds at most.
-/
namespace Go.Proofs.Ytdmmkjijgoiecaa.re
open Go.RowKit Go.Proofs.Ytdmmkjijgoiecaa.mem Go.Proofs.Ytdmmkjijgoiecaa.sy

def RB : Nat := 140737488351232

theorem ad_eq {a b : Int} (h1 : 0 ≤ a) (h2 : a ≤ 1000000000000000000) (h3 : 0 ≤ b) (h4 : b ≤ 1000000000000000000) : ad a b = a + b := by unfold ad wrap64; omega
theorem ten_eq {a : Int} (h1 : 0 ≤ a) (h2 : a ≤ 140737488351232) : ten a = 10 * a := by unfold ten wrap64; omega

theorem gTxt_ge : ∀ (l : List ByteArray) (k : Nat) (n : Int), 0 ≤ n → n + ((100 - k : Nat) : Int) * 140737488351232 ≤ 1000000000000000000 → (∀ s ∈ l, s.size ≤ RB) → n ≤ gTxt l k n
  | [], k, n, _, _, _ => by unfold gTxt; omega
  | m :: r, k, n, h0, h1, hs => by
    unfold gTxt
    split
    · have hm := hs m (List.mem_cons_self ..)
      unfold RB at hm
      have e : ad n m.size = n + m.size := ad_eq h0 (by omega) (by omega) (by omega)
      have := gTxt_ge r (k + 1) (ad n m.size) (by omega) (by rw [e]; omega) (fun s h => hs s (List.mem_cons_of_mem _ h))
      omega
    · omega

theorem oN_ge {o : SO} {n : Int} (h : OB RB o) (h0 : 0 ≤ n) (h1 : n ≤ 60000) : n + 10 * o.marks.length ≤ oN o n := by
  have hn := h.n
  have hk := h.k
  have hl := h.l
  unfold RB at hn hk hl
  unfold oN
  have e1 : ad n o.name.size = n + o.name.size := ad_eq h0 (by omega) (by omega) (by omega)
  have e2 : ad (n + o.name.size) o.kinds.size = n + o.name.size + o.kinds.size := ad_eq (by omega) (by omega) (by omega) (by omega)
  have e3 : ten o.marks.length = 10 * o.marks.length := ten_eq (by omega) (by omega)
  have e4 : ad (n + o.name.size + o.kinds.size) (10 * o.marks.length) = n + o.name.size + o.kinds.size + 10 * o.marks.length := ad_eq (by omega) (by omega) (by omega) (by omega)
  have e : o1 o n = n + o.name.size + o.kinds.size + 10 * o.marks.length := by unfold o1; rw [e1, e2, e3, e4]
  have := gTxt_ge (o.marks.map (·.tag)) 0 (o1 o n) (by omega) (by omega) (fun s hs => by
    obtain ⟨m, hm, rfl⟩ := List.mem_map.1 hs
    exact h.m m hm)
  omega
theorem f1_ge {f : SF} {n : Int} (h : FB RB f) (h0 : 0 ≤ n) (h1 : n ≤ 60000) : n ≤ f1 f n := by
  have hn := h.n
  have hk := h.k
  have hr := h.r
  unfold RB at hn hk hr
  have e1 : ad n f.name.size = n + f.name.size := ad_eq h0 (by omega) (by omega) (by omega)
  have e2 : ad (n + f.name.size) f.kinds.size = n + f.name.size + f.kinds.size := ad_eq (by omega) (by omega) (by omega) (by omega)
  have e3 : ad (n + f.name.size + f.kinds.size) f.ret.size = n + f.name.size + f.kinds.size + f.ret.size := ad_eq (by omega) (by omega) (by omega) (by omega)
  unfold f1
  rw [e1, e2, e3]
  omega
theorem cN_ge {c : SC} {n : Int} (h : CB RB c) (h0 : 0 ≤ n) (h1 : n ≤ 60000) : n + 10 * c.args.length ≤ cN c n := by
  have ha := h.a
  have hb := h.b
  have ht := h.t
  have hl := h.l
  unfold RB at ha hb ht hl
  unfold cN
  have e1 : ad n c.a.size = n + c.a.size := ad_eq h0 (by omega) (by omega) (by omega)
  have e2 : ad (n + c.a.size) c.b.size = n + c.a.size + c.b.size := ad_eq (by omega) (by omega) (by omega) (by omega)
  have e3 : ad (n + c.a.size + c.b.size) c.tag.size = n + c.a.size + c.b.size + c.tag.size := ad_eq (by omega) (by omega) (by omega) (by omega)
  have e4 : ten c.args.length = 10 * c.args.length := ten_eq (by omega) (by omega)
  have e5 : ad (n + c.a.size + c.b.size + c.tag.size) (10 * c.args.length) = n + c.a.size + c.b.size + c.tag.size + 10 * c.args.length := ad_eq (by omega) (by omega) (by omega) (by omega)
  have e : c1 c n = n + c.a.size + c.b.size + c.tag.size + 10 * c.args.length := by unfold c1; rw [e1, e2, e3, e4, e5]
  have := gTxt_ge c.args 0 (c1 c n) (by omega) (by omega) (fun s hs => h.g s hs)
  omega

theorem gAll_in {α : Type} {f : α → Int → Int} {B : Int} {Q : α → Prop} (hf : ∀ x n, Q x → 0 ≤ n → n ≤ 60000 → n ≤ f x n) (hB : B ≤ 60000) : ∀ (l : List α) (n z : Int), (∀ x ∈ l, Q x) → 0 ≤ n → n ≤ 60000 → gAll f B l n = some z → (0 ≤ z ∧ z ≤ 60000) ∧ ∀ x ∈ l, ∃ k : Int, 0 ≤ k ∧ k ≤ 60000 ∧ f x k ≤ B
  | [], n, z, _, h0, h1, h => by
    unfold gAll at h
    obtain rfl := Option.some.inj h
    exact ⟨⟨h0, h1⟩, fun x hx => by cases hx⟩
  | x :: r, n, z, hq, h0, h1, h => by
    unfold gAll at h
    split at h
    · cases h
    · have hx := hf x n (hq x (List.mem_cons_self ..)) h0 h1
      obtain ⟨a, b⟩ := gAll_in hf hB r (f x n) z (fun y hy => hq y (List.mem_cons_of_mem _ hy)) (by omega) (by omega) h
      refine ⟨a, fun y hy => ?_⟩
      rcases List.mem_cons.1 hy with rfl | hy
      · exact ⟨n, h0, h1, by omega⟩
      · exact b y hy

structure Sml (s : SS) : Prop where
  o : s.objs.length ≤ 80
  f : s.fns.length ≤ 80
  c : s.cons.length ≤ 80
  m : ∀ x ∈ s.objs, x.marks.length ≤ 3000
  a : ∀ x ∈ s.cons, x.args.length ≤ 6000

theorem sml_of {s : SS} (ho : ∀ x ∈ s.objs, OB RB x) (hf : ∀ x ∈ s.fns, FB RB x) (hc : ∀ x ∈ s.cons, CB RB x) (h : greatB s 80 = false) : Sml s := by
  unfold greatB at h
  simp only [Bool.or_eq_false_iff, decide_eq_false_iff_not, Int.not_lt] at h
  obtain ⟨h1, h2, h3, h4⟩ := h
  rcases e1 : gAll oN 30000 s.objs 0 with _ | n1
  · rw [e1] at h4; simp at h4
  rw [e1] at h4
  simp only [Option.bind_some] at h4
  rcases e2 : gAll f1 30000 s.fns n1 with _ | n2
  · rw [e2] at h4; simp at h4
  rw [e2] at h4
  simp only [Option.bind_some] at h4
  rcases e3 : gAll cN 60000 s.cons n2 with _ | n3
  · rw [e3] at h4; simp at h4
  obtain ⟨a1, b1⟩ := gAll_in (Q := OB RB) (fun x n q h0 h1 => by have := oN_ge q h0 h1; omega) (by omega) s.objs 0 n1 ho (by omega) (by omega) e1
  obtain ⟨a2, b2⟩ := gAll_in (Q := FB RB) (fun x n q h0 h1 => f1_ge q h0 h1) (by omega) s.fns n1 n2 hf a1.1 a1.2 e2
  obtain ⟨a3, b3⟩ := gAll_in (Q := CB RB) (fun x n q h0 h1 => by have := cN_ge q h0 h1; omega) (by omega) s.cons n2 n3 hc a2.1 a2.2 e3
  refine ⟨by omega, by omega, by omega, fun x hx => ?_, fun x hx => ?_⟩
  · obtain ⟨k, k0, k1, k2⟩ := b1 x hx
    have := oN_ge (ho x hx) k0 k1
    omega
  · obtain ⟨k, k0, k1, k2⟩ := b3 x hx
    have := cN_ge (hc x hx) k0 k1
    omega

theorem flat_le {α β : Type} (f : α → List β) (C : Nat) : ∀ l : List α, (∀ x ∈ l, (f x).length ≤ C) → (l.flatMap f).length ≤ l.length * C
  | [], _ => by simp
  | x :: l, h => by
    rw [List.flatMap_cons, List.length_append, List.length_cons, Nat.add_mul, Nat.one_mul]
    have := flat_le f C l (fun y hy => h y (List.mem_cons_of_mem _ hy))
    have := h x (List.mem_cons_self ..)
    omega

/-- a summary that is not too much -/
structure SmlU (u : SU) : Prop where
  n : u.name.size ≤ 100
  s : Sml u.sys
  g : u.gives.length ≤ 60 ∧ ∀ x ∈ u.gives, x.size ≤ 100
  w : u.wants.length ≤ 60 ∧ ∀ x ∈ u.wants, x.size ≤ 100
  k : u.keeps.length ≤ 200 ∧ ∀ x ∈ u.keeps, x.size ≤ 100

theorem evL_len (l : List ByteArray) : (evL l).length = l.length + 1 := by simp [evL]
theorem ev_small {u : SU} (h : SmlU u) : (evSU u).length ≤ 999000 := by
  have h1 := h.g.1
  have h2 := h.w.1
  have h3 := h.k.1
  have h4 := h.s.o
  have h5 := h.s.f
  have h6 := h.s.c
  have l1 : (evOs u.sys.objs).length ≤ 1 + u.sys.objs.length * 6003 := by
    unfold evOs
    have := flat_le evO 6003 u.sys.objs (fun x hx => by
      have a := h.s.m x hx
      have b := flat_le evM 2 x.marks (fun y _ => by simp [evM])
      simp only [evO, evMs, List.length_cons]
      omega)
    rw [List.length_cons]
    omega
  have l2 : (evFs u.sys.fns).length ≤ 1 + u.sys.fns.length * 3 := by
    unfold evFs
    have := flat_le evF 3 u.sys.fns (fun x hx => by simp [evF])
    rw [List.length_cons]
    omega
  have l3 : (evCs u.sys.cons).length ≤ 1 + u.sys.cons.length * 6006 := by
    unfold evCs
    have := flat_le evC 6006 u.sys.cons (fun x hx => by
      have a := h.s.a x hx
      have b := evL_len x.args
      simp only [evC, List.length_cons]
      omega)
    rw [List.length_cons]
    omega
  unfold evSU
  simp only [List.length_cons, List.length_append, evL_len]
  omega
end Go.Proofs.Ytdmmkjijgoiecaa.re

/-
  record: is a summary too much?
-/
namespace Go.Proofs.Ytdmmkjijgoiecaa.re
open Go.RowKit Go.Shelf Go.Proofs.Ytdmmkjijgoiecaa.mem Go.Proofs.Ytdmmkjijgoiecaa.sy

def GTB (w : World) (l : List ByteArray) (N : Nat) (e : Ending) (w' : World) : Prop := ∃ r, e = .returned (.bool r) ∧ w = w' ∧ (r = false → l.length ≤ N ∧ ∀ s ∈ l, s.size ≤ 100)

theorem tx_len (s : ByteArray) : (tx s).length = s.size := by
  exact Array.length_toList

theorem gtb {w : World} {l : List ByteArray} {N : Nat} {e : Ending} {w' : World} (h : GTPost w (l.map tx) N e w') : GTB w l N e w' := by
  obtain ⟨r, h1, h2, h3⟩ := h
  refine ⟨r, h1, h2, fun hr => ?_⟩
  obtain ⟨h4, h5⟩ := h3 hr
  rw [List.length_map] at h4
  exact ⟨h4, fun s hs => by have := h5 (tx s) (List.mem_map.2 ⟨s, hs, rfl⟩); rwa [tx_len] at this⟩
theorem greatT_b (w : World) (A : Option Addr) (cap : Nat) (l : List ByteArray) (h : Rd w A (l.map Value.string)) (hm : l.length ≤ maxLen) :
    Calls Try.prog 7 #[.slice A l.length cap] w (GTB w l 60) := by
  have k := greatT_any w A cap (l.map tx) (by rw [map_tx]; exact h) (by rw [List.length_map]; exact hm)
  rw [List.length_map] at k
  exact k.mono (fun e w' h => gtb h)
theorem greatK_b (w : World) (A : Option Addr) (cap : Nat) (l : List ByteArray) (h : Rd w A (l.map Value.string)) (hm : l.length ≤ maxLen) (h2 : l.length ≤ 200) :
    Calls Try.prog 20 #[.slice A l.length cap] w (GTB w l 200) := by
  have k := greatK_any w A cap (l.map tx) (by rw [map_tx]; exact h) (by rw [List.length_map]; exact hm) (by rw [List.length_map]; exact h2)
  rw [List.length_map] at k
  exact k.mono (fun e w' h => gtb h)

def GSP (u : MU) (w : World) (e : Ending) (w' : World) : Prop := ∃ r, e = .returned (.bool r) ∧ Below w.heap.size w w' ∧ (r = false → SmlU u.su)

theorem SumB.small {u : MU} (h : SumB RB u) (hg : greatB u.s.sys 80 = false) : Sml u.s.sys :=
  sml_of (fun x hx => by
    obtain ⟨y, hy, rfl⟩ := List.mem_map.1 hx
    exact h.os y hy) (fun x hx => h.fs x hx) (fun x hx => by
    obtain ⟨y, hy, rfl⟩ := List.mem_map.1 hx
    exact h.cs y hy) hg

set_option maxRecDepth 100000 in
set_option maxHeartbeats 2000000 in
theorem great_su (u : MU) (w : World) (hs : SumM w u) (hb : SumB RB u) : Calls Try.prog 6 #[u.val] w (GSP u w) := by
  obtain ⟨W, hWe⟩ : ∃ W, Hid (W = w.alloc (.cells u.row 29)) := ⟨_, Lib.hid rfl⟩
  have B : Box W w.heap.size 29 u.row := by rw [hWe.out]; exact Box.new _ _ _
  have b0 : Below w.heap.size w W := by rw [hWe.out]; exact (Below.refl _ _).alloc (Nat.le_refl _) _
  have hwz : w.heap.size < W.heap.size := B.lt
  have hsW : SumM W u := hs.below b0
  have HB : Hid (∀ w2, Below W.heap.size W w2 → SumM w2 u ∧ Box w2 w.heap.size 29 u.row ∧ Below w.heap.size w w2) := Lib.hid (fun w2 b => ⟨hsW.below b, B.kept (Fr.of_below b []) (by simp), b0.trans (b.mono b0.size)⟩)
  have KG := Lib.hid (great_any u.s 80 W hsW.sr)
  have KT1 := Lib.hid (fun (w2 : World) (b : Below W.heap.size W w2) => greatT_b w2 u.gA u.gc u.gives (HB.out w2 b).1.gr hb.g.1)
  have KT2 := Lib.hid (fun (w2 : World) (b : Below W.heap.size W w2) => greatT_b w2 u.wA u.wc u.wants (HB.out w2 b).1.wr hb.w.1)
  have KT3 := Lib.hid (fun (w2 : World) (b : Below W.heap.size W w2) (h2 : u.keeps.length ≤ 200) => greatK_b w2 u.kA u.kc u.keeps (HB.out w2 b).1.kr hb.k.1 h2)
  have HS : Hid (u.name.size ≤ 100 → greatB u.s.sys 80 = false → (u.gives.length ≤ 60 ∧ ∀ s ∈ u.gives, s.size ≤ 100) → (u.wants.length ≤ 60 ∧ ∀ s ∈ u.wants, s.size ≤ 100) → (u.keeps.length ≤ 200 ∧ ∀ s ∈ u.keeps, s.size ≤ 100) → SmlU u.su) := Lib.hid (fun h1 h2 h3 h4 h5 => ⟨h1, hb.small h2, h3, h4, h5⟩)
  have HC : Hid (∀ w2, Below W.heap.size W w2 → w2.cell? ⟨w.heap.size, 0, none⟩ = some (.string u.name) ∧ w2.cell? ⟨w.heap.size, 1, none⟩ = some (.slice u.gA u.gives.length u.gc) ∧ w2.cell? ⟨w.heap.size, 2, none⟩ = some (.slice u.wA u.wants.length u.wc) ∧ w2.cell? ⟨w.heap.size, 3, none⟩ = some (.slice u.kA u.keeps.length u.kc) ∧ w2.cell? ⟨w.heap.size, 4, none⟩ = some (.slice u.s.oA u.s.os.length u.s.oc) ∧ w2.cell? ⟨w.heap.size, 5, none⟩ = some (.slice u.s.fA u.s.fs.length u.s.fc) ∧ w2.cell? ⟨w.heap.size, 6, none⟩ = some (.slice u.s.cA u.s.cs.length u.s.cc)) := Lib.hid (fun w2 b => by
    have x := (HB.out w2 b).2.1
    exact ⟨x.cell 0, x.cell 1, x.cell 2, x.cell 3, x.cell 4, x.cell 5, x.cell 6⟩)
  have HE : Hid (∀ w2, Below W.heap.size W w2 → Below w.heap.size w w2) := Lib.hid (fun w2 b => (HB.out w2 b).2.2)
  have R0 := Lib.hid (Below.refl W.heap.size W)
  have HTr : Hid (∀ w2 w3, Below W.heap.size W w2 → Below w2.heap.size w2 w3 → Below W.heap.size W w3) := Lib.hid (fun w2 w3 a b => a.trans (b.mono a.size))
  have Bd := Lib.hid hb
  obtain ⟨x0, x1, x2, x3, x4, x5, x6⟩ := HC.out W R0.out
  unfold BPost at KG
  unfold MS.val at KG
  clear hs hb hsW HB B b0 hwz
  generalize greatB u.s.sys 80 = g at *
  unfold GSP MU.val
  unfold MU.row at hWe ⊢
  by_cases h1 : 100 < u.name.size
  · have d1 : decide ((100 : Int) < (u.name.size : Int)) = true := decide_eq_true (by omega)
    have E := Lib.hid (HE.out W R0.out)
    clear KG KT1 KT2 KT3 HS HC HE HTr Bd
    go_enter Try.func6, Try.ntmps6
    go_upto_region 1 with fail
    rw [← hWe.out]
    go_wp2_with fail
    go_ret
    exact ⟨true, rfl, E.out, fun h => by cases h⟩
  · have d1 : decide ((100 : Int) < (u.name.size : Int)) = false := decide_eq_false (by omega)
    have h1' := Lib.hid (Nat.le_of_not_lt h1)
    clear h1
    go_enter Try.func6, Try.ntmps6
    go_upto_region 1 with fail
    rw [← hWe.out]
    go_wp2_with fail
    refine KG.out.mono ?_
    rintro e w2 ⟨rfl, b2⟩
    have B2 := Lib.hid b2
    clear b2 x0 x1 x2 x3 x4 x5 x6 KG
    obtain ⟨x0, x1, x2, x3, x4, x5, x6⟩ := HC.out w2 B2.out
    rcases hg : g with _ | _
    · subst hg
      have K1 := Lib.hid (KT1.out w2 B2.out)
      unfold GTB at K1
      go_wp2_with fail
      refine K1.out.mono ?_
      rintro e w3 ⟨r1, rfl, rfl, p1⟩
      replace p1 := Lib.hid p1
      clear K1
      rcases hr1 : r1 with _ | _
      · replace p1 := Lib.hid (p1.out hr1)
        subst hr1
        have K1 := Lib.hid (KT2.out w2 B2.out)
        unfold GTB at K1
        go_wp2_with fail
        refine K1.out.mono ?_
        rintro e w3 ⟨r2, rfl, rfl, p2⟩
        replace p2 := Lib.hid p2
        clear K1
        rcases hr2 : r2 with _ | _
        · replace p2 := Lib.hid (p2.out hr2)
          subst hr2
          by_cases h5 : 200 < u.keeps.length
          · have d5 : decide ((200 : Int) < (u.keeps.length : Int)) = true := decide_eq_true (by omega)
            have E := Lib.hid (HE.out w2 B2.out)
            clear KT1 KT2 KT3 HS HC HE HTr Bd
            go_wp2_with fail
            go_ret
            exact ⟨true, rfl, E.out, fun h => by cases h⟩
          · have d5 : decide ((200 : Int) < (u.keeps.length : Int)) = false := decide_eq_false (by omega)
            have K1 := Lib.hid (KT3.out w2 B2.out (by omega))
            unfold GTB at K1
            go_wp2_with fail
            refine K1.out.mono ?_
            rintro e w3 ⟨r3, rfl, rfl, p3⟩
            have E := Lib.hid (HE.out w2 B2.out)
            replace p3 := Lib.hid p3
            clear K1 KT1 KT2 KT3 HC HE HTr Bd
            go_wp2_with fail
            go_ret
            exact ⟨r3, rfl, E.out, fun h => HS.out h1'.out (by simp) p1.out p2.out (p3.out h)⟩
        · subst hr2
          have E := Lib.hid (HE.out w2 B2.out)
          clear KT1 KT2 KT3 HS HC HE HTr Bd p1 p2
          go_wp2_with fail
          go_ret
          exact ⟨true, rfl, E.out, fun h => by cases h⟩
      · subst hr1
        have E := Lib.hid (HE.out w2 B2.out)
        clear KT1 KT2 KT3 HS HC HE HTr Bd p1
        go_wp2_with fail
        go_ret
        exact ⟨true, rfl, E.out, fun h => by cases h⟩
    · subst hg
      have E := Lib.hid (HE.out w2 B2.out)
      clear KT1 KT2 KT3 HS HC HE HTr Bd
      go_wp2_with fail
      go_ret
      exact ⟨true, rfl, E.out, fun h => by cases h⟩
end Go.Proofs.Ytdmmkjijgoiecaa.re
