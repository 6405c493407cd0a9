/-
  varint: works; the law on writing.
-/
import Derived.Test.YtidmcifckbpgbaaVr8
namespace Go.Proofs.Ytidmcifckbpgbaa.vr
open Go.RowKit Go.Proofs.Ytidmcifckbpgbaa.mem

def WorksPost (w : World) (e : Ending) (w' : World) : Prop := e = .returned (.bool true) ∧ Below w.heap.size w w'

def L2 : List PutT := [(false, 300, ⟨#[]⟩), (true, 0, ⟨#[97, 98]⟩)]

theorem L2_puts (w : World) : Puts (w.alloc (.cells #[.bool false, .int .i64 300, .string ⟨#[]⟩, .bool true, .int .i64 0, .string ⟨#[97, 98]⟩] 34)) (some ⟨w.heap.size, 0, none⟩) L2 := fun _ => by
  have hb := Box.new w 34 #[.bool false, .int .i64 300, .string ⟨#[]⟩, .bool true, .int .i64 0, .string ⟨#[97, 98]⟩]
  refine ⟨w.heap.size, 0, rfl, by simp, fun j hj => ?_⟩
  have hj2 : j < 2 := hj
  rw [hb.cell, hb.cell, hb.cell]
  rcases j with _ | _ | j
  · exact ⟨rfl, rfl, rfl⟩
  · exact ⟨rfl, rfl, rfl⟩
  · omega

theorem nb300 : nb 300 = [172, 2] := by rw [nb_more _ (by omega), nb_small _ (by omega)]; decide
theorem nb2 : nb 2 = [2] := by rw [nb_small _ (by omega)]; decide

theorem L2_all : putAll L2 = ([172, 2, 2, 97, 98], 0) := by
  have h1 : putN ([], 0) 300 = ([172, 2], 0) := by
    unfold putN
    rw [if_neg (by simp), if_neg (by omega)]
    show ([] ++ nb 300, (0 : Int)) = _
    rw [nb300]; rfl
  have h2 : putT ([172, 2], 0) ⟨#[97, 98]⟩ = ([172, 2, 2, 97, 98], 0) := by
    unfold putT
    rw [if_neg (by simp), if_neg (by decide)]
    show ([172, 2] ++ (nb 2 ++ [97, 98]), (0 : Int)) = _
    rw [nb2]; rfl
  show put1 (put1 ([], 0) (false, 300, ⟨#[]⟩)) (true, 0, ⟨#[97, 98]⟩) = _
  have e1 : put1 ([], 0) (false, 300, ⟨#[]⟩) = ([172, 2], 0) := h1
  rw [e1]
  exact h2

set_option maxRecDepth 100000 in
theorem works_any (w : World) : Calls Try.prog 33 #[] w (WorksPost w) := by
  have K := write_any _ (some ⟨w.heap.size, 0, none⟩) 2 L2 (L2_puts w) (by decide)
  unfold WrPost at K
  rw [L2_all] at K
  have K2 : Hid (Calls Try.prog 22 #[.slice (some ⟨w.heap.size, 0, none⟩) 2 2] (w.alloc (.cells #[.bool false, .int .i64 300, .string ⟨#[]⟩, .bool true, .int .i64 0, .string ⟨#[97, 98]⟩] 34)) fun e w' => e = .returned (.tuple #[.string ⟨#[172, 2, 2, 97, 98]⟩, .int .i64 0]) ∧ Below w.heap.size w w') := Lib.hid (K.mono (by
    rintro e w' ⟨rfl, hb⟩
    exact ⟨rfl, ((Below.refl w.heap.size w).alloc (Nat.le_refl _) _).trans (hb.mono (by simp))⟩))
  clear K
  go_enter Try.func33, Try.ntmps33
  go_wp2_with fail
  refine K2.out.mono ?_
  rintro e w1 ⟨rfl, b1⟩
  have B1 := Lib.hid b1
  clear b1 K2
  go_wp2_with fail
  go_ret
  exact ⟨rfl, B1.out⟩

/-- the reference's writer, made since w -/
structure ROwn (w wr : World) (r : Nat) (st : List UInt8 × Int) : Prop where
  rw : RW wr r st
  on : Below w.heap.size w wr
  br : w.heap.size ≤ r

theorem ROwn.step {w wr w2 : World} {r : Nat} {st st2 : List UInt8 × Int} (h : ROwn w wr r st) (h2 : RW w2 r st2) (hf : Fr [r] wr w2) : ROwn w w2 r st2 :=
  ⟨h2, h.on.trans (hf.below (by simpa using h.br) h.on.size), h.br⟩

theorem ROwn.below {w wr w2 : World} {r : Nat} {st : List UInt8 × Int} (h : ROwn w wr r st) (hb : Below wr.heap.size wr w2) : ROwn w w2 r st :=
  h.step ⟨h.rw.box.kept (Fr.of_below hb []) (by simp)⟩ (Fr.of_below hb _)

theorem rown_new (w : World) : ROwn w (w.alloc (.cells #[.string ⟨#[]⟩, .int .i64 0] 32)) w.heap.size ([], 0) :=
  ⟨⟨Box.new w _ _⟩, (Below.refl _ _).alloc (Nat.le_refl _) _, Nat.le_refl _⟩

set_option maxRecDepth 100000 in
theorem law_writes (w : World) (A : Option Addr) (cap : Nat) (l : List PutT) (h : Puts w A l) (hm : l.length ≤ 9223372036854775807) :
    Calls Try.prog 5 #[.slice A l.length cap] w (WorksPost w) := by
  have Hh := Lib.hid h
  have KL := Lib.hid (light_any w A cap l h hm)
  have KW := Lib.hid (fun w' (hb : Below w.heap.size w w') (hl : l.length ≤ 300) => write_any w' A cap l (h.below hb) hl)
  unfold LPost at KL
  unfold WrPost at KW
  have h0 : Hid (ROwn w (w.alloc (.cells #[.string ⟨#[]⟩, .int .i64 0] 32)) w.heap.size (putAll (l.take 0))) := Lib.hid (rown_new w)
  clear h
  go_enter Try.func5, Try.ntmps5
  go_wp2_with fail
  refine KL.out.mono ?_
  rintro e w1 ⟨b, rfl, rfl, hb3⟩
  clear KL
  cases b with
  | false =>
    clear hb3
    go_wp2_with fail
    go_ret
    exact ⟨rfl, Below.refl _ _⟩
  | true =>
    have hl3 : l.length ≤ 300 := hb3 rfl
    clear hb3
    go_wp2_with fail
    go_loopw [4] (fun i wr => ∃ (k : Nat), k ≤ l.length ∧ i = .int .i64 k ∧ Hid (ROwn w wr w.heap.size (putAll (l.take k)))) (fun i _ => l.length - (intOf i).toNat)
    case atStart => exact ⟨0, by omega, rfl, h0⟩
    case round =>
      obtain ⟨k, hk, rfl, ho⟩ := hrel
      rename_i wr _
      by_cases hkl : k < l.length
      · have e1 : decide ((k : Int) < (l.length : Int)) = true := decide_eq_true (by omega)
        obtain ⟨b, off, rfl, hlt, hcell⟩ := (Hh.out.below ho.out.on) (by omega)
        obtain ⟨c0, c1, c2⟩ := hcell k hkl
        have hsn : Hid (putAll (l.take (k + 1)) = put1 (putAll (l.take k)) l[k]) := Lib.hid (by rw [List.take_succ_eq_append_getElem hkl, putAll_snoc])
        have hsl : (putAll (l.take k)).1.length ≤ 100000000 := by
          have := putAll_len (l.take k)
          rw [List.length_take] at this
          omega
        clear hcell
        generalize l[k] = p at *
        obtain ⟨pt, pn, ps⟩ := p
        simp only at c0 c1 c2
        cases pt with
        | true =>
          have K := Lib.hid (rw_text wr w.heap.size (putAll (l.take k)) ps ho.out.rw hsl)
          unfold RPost at K
          have hp : Hid (putT (putAll (l.take k)) ps = putAll (l.take (k + 1))) := Lib.hid (by rw [hsn.out]; unfold put1; rw [if_pos rfl])
          rw [hp.out] at K
          clear hp hsn hsl c1
          go_wp2_with fail
          refine K.out.mono ?_
          rintro e w2 ⟨rfl, h2, hf2⟩
          have H2 := Lib.hid (ho.out.step h2 hf2)
          clear h2 hf2 c0 c2 K
          go_wp2_with fail
          go_roundw
          case rel => exact ⟨k + 1, by omega, by go_num, H2⟩
          case measure => simp [intOf]; omega
        | false =>
          have K := Lib.hid (rw_number wr w.heap.size (putAll (l.take k)) pn ho.out.rw hsl)
          unfold RPost at K
          have hp : Hid (putN (putAll (l.take k)) pn = putAll (l.take (k + 1))) := Lib.hid (by rw [hsn.out]; unfold put1; rw [if_neg (by simp)])
          rw [hp.out] at K
          clear hp hsn hsl c2
          go_wp2_with fail
          refine K.out.mono ?_
          rintro e w2 ⟨rfl, h2, hf2⟩
          have H2 := Lib.hid (ho.out.step h2 hf2)
          clear h2 hf2 c0 c1 K
          go_wp2_with fail
          go_roundw
          case rel => exact ⟨k + 1, by omega, by go_num, H2⟩
          case measure => simp [intOf]; omega
      · obtain rfl : k = l.length := by omega
        have e1 : decide ((l.length : Int) < (l.length : Int)) = false := decide_eq_false (by omega)
        have K := Lib.hid (KW.out wr ho.out.on hl3)
        have KR := Lib.hid (fun w' (h : ROwn w w' w.heap.size (putAll (l.take l.length))) => rw_done w' w.heap.size _ h.rw)
        rw [List.take_length] at KR ho
        clear KW
        generalize bs (doneS (putAll l)) = x at *
        generalize putAll l = st at *
        have d1 : (x.toList == x.toList) = true := by simp
        have d2 : (st.2 == st.2) = true := by simp
        go_wp2_with fail
        refine K.out.mono ?_
        rintro e w2 ⟨rfl, hb2⟩
        have H2 := Lib.hid (ho.out.below hb2)
        clear hb2 K
        go_wp2_with fail
        refine (KR.out _ H2.out).mono ?_
        rintro e w3 ⟨rfl, hb3⟩
        have H3 := Lib.hid (H2.out.below hb3)
        clear hb3 KR H2
        go_wp2_with fail
        go_ret
        exact ⟨rfl, H3.out.on⟩
end Go.Proofs.Ytidmcifckbpgbaa.vr
