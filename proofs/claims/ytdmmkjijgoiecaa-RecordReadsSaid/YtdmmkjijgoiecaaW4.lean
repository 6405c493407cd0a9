import Derived.Test.YtdmmkjijgoiecaaW3
set_option linter.all false
/-
  record: elements read, as lists take them: marks, functions; plain: where a reader stands then.
-/
namespace Go.Proofs.Ytdmmkjijgoiecaa.re
open Go.RowKit Go.Shelf Go.Proofs.Ytdmmkjijgoiecaa.mem Go.Proofs.Ytdmmkjijgoiecaa.sy Go.Proofs.Ytdmmkjijgoiecaa.vr Go.Proofs.Ytdmmkjijgoiecaa.po

theorem nV_le (s : ByteArray) (p : Nat) (er : Int) (hp : p ≤ s.size) : nV s p er ≤ 268435456 := by
  unfold nV
  split
  · omega
  · by_cases h : (ct s p).2.2 = 0
    · exact (ct_ok s p hp h).2
    · rw [(ct_bad s p h).1]; omega
theorem nV_wf (s : ByteArray) (p : Nat) (er : Int) (hp : p ≤ s.size) : (Lit.int .i64 (nV s p er : Nat)).wf = true := by
  have := nV_le s p er hp
  show (decide ((-9223372036854775808 : Int) ≤ (nV s p er : Nat)) && decide (((nV s p er : Nat) : Int) ≤ 9223372036854775807)) = true
  simp only [Bool.and_eq_true, decide_eq_true_eq]
  omega
theorem tT_size (m : List (List UInt8)) (s : ByteArray) (p : Nat) (er : Int) (h : ∀ x ∈ m, x.length ≤ maxLen) : (tT m s p er).size ≤ maxLen := by
  have h0 : (ByteArray.mk #[]).size ≤ maxLen := by unfold maxLen; decide
  unfold tT
  split
  · exact h0
  · rcases hx : m[nV s p er]? with _ | x
    · exact h0
    · simp only [Option.map_some, Option.getD_some]
      have := h x (List.mem_of_getElem? hx)
      simpa [ByteArray.size] using this

theorem goT_size (m : List (List UInt8)) (s : ByteArray) (h : ∀ x ∈ m, x.length ≤ maxLen) : ∀ (k q : Nat) (e : Int), ∀ x ∈ (goL (oneT m s) k q e).1, x.size ≤ maxLen
  | 0, q, e, x, hx => by simp [goL] at hx
  | k + 1, q, e, x, hx => by
    unfold goL at hx
    split at hx
    · simp at hx
    · rcases List.mem_cons.1 hx with rfl | hx
      · exact tT_size m s q e h
      · exact goT_size m s h k _ _ x hx

/-- where a reader stands: within, and not told to stop -/
def Okp (s : ByteArray) {α : Type} (one : Nat → Int → α × Nat × Int) : Prop := ∀ q e, q ≤ s.size → e ≠ 6 → (one q e).2.1 ≤ s.size ∧ (one q e).2.2 ≠ 6

theorem ok_T (m : List (List UInt8)) (s : ByteArray) : Okp s (oneT m s) := fun q e hq he => ⟨nP_in s q e hq, tN_ok m s q e he⟩
theorem ok_M (m : List (List UInt8)) (s : ByteArray) : Okp s (oneM m s) := fun q e hq he => ⟨nP_in s _ _ (nP_in s q e hq), tN_ok m s _ _ (nE_ok s q e he)⟩
theorem ok_F (m : List (List UInt8)) (s : ByteArray) : Okp s (oneF m s) := fun q e hq he => ⟨nP_in s _ _ (nP_in s _ _ (nP_in s q e hq)), tN_ok m s _ _ (tN_ok m s _ _ (tN_ok m s q e he))⟩
theorem ok_go {s : ByteArray} {α : Type} {one : Nat → Int → α × Nat × Int} (h : Okp s one) : ∀ (k q : Nat) (e : Int), q ≤ s.size → e ≠ 6 → (goL one k q e).2.1 ≤ s.size ∧ (goL one k q e).2.2 ≠ 6
  | 0, q, e, hq, he => ⟨hq, he⟩
  | k + 1, q, e, hq, he => by
    unfold goL
    split
    · exact ⟨hq, he⟩
    · exact ok_go h k _ _ (h q e hq he).1 (h q e hq he).2
theorem ok_list {s : ByteArray} {α : Type} {one : Nat → Int → α × Nat × Int} (h : Okp s one) : Okp s (fun q e => listL one s q e) := fun q e hq he => ok_go h _ _ _ (nP_in s q e hq) (eL_ok s q e he)

theorem mark_op {w0 : World} {r pb rb : Nat} {s : ByteArray} {p : Nat} {er : Int} {pA : Option Addr} {pc : Nat} {m : List (List UInt8)} {w : World} (hp : Pl w0 pb pA pc m) (hm : m.length ≤ 1000000) (hml : ∀ x ∈ m, x.length ≤ maxLen) (hs : s.size ≤ maxLen) (hps : p ≤ s.size) (h : PD w0 r s p er w) (hrb : Box w rb 70 #[.pointer (some ⟨r, 0, none⟩), .pointer (some ⟨pb, 0, none⟩)]) (hnr : rb ≠ r) :
    Calls Try.prog 62 #[.pointer (some ⟨rb, 0, none⟩)] w (OP EMk (fun m : Mk => m) r (PD w0 r s) (oneM m s p er).1 (oneM m s p er).2.1 (oneM m s p er).2.2 w) :=
  (mark_any hp hm hs hps h hrb hnr).mono (fun e w' x => ⟨(oneM m s p er).1, x.1, rfl, x.2.1, x.2.2, ⟨tT_size m s _ _ hml, nV_wf s p er hps⟩, fun x hx => by cases hx⟩)

theorem fn_op {w0 : World} {r pb : Nat} {s : ByteArray} {p : Nat} {er : Int} {pA : Option Addr} {pc : Nat} {m : List (List UInt8)} {w : World} (hp : Pl w0 pb pA pc m) (hm : m.length ≤ 1000000) (hml : ∀ x ∈ m, x.length ≤ maxLen) (hs : s.size ≤ maxLen) (hps : p ≤ s.size) (h : PD w0 r s p er w) :
    Calls Try.prog 32 #[rdV r pb] w (OP EFn (fun m : SF => m) r (PD w0 r s) (oneF m s p er).1 (oneF m s p er).2.1 (oneF m s p er).2.2 w) :=
  (fn_any hp hm hs hps h).mono (fun e w' x => ⟨(oneF m s p er).1, x.1, rfl, x.2.1, x.2.2, ⟨tT_size m s _ _ hml, tT_size m s _ _ hml, tT_size m s _ _ hml⟩, fun x hx => by cases hx⟩)

def oneO (m : List (List UInt8)) (s : ByteArray) (p : Nat) (er : Int) : SO × Nat × Int :=
  (⟨tT m s p er, tT m s (nP s p er) (tN m s p er), (listL (oneM m s) s (nP s (nP s p er) (tN m s p er)) (tN m s (nP s p er) (tN m s p er))).1⟩,
   (listL (oneM m s) s (nP s (nP s p er) (tN m s p er)) (tN m s (nP s p er) (tN m s p er))).2)

def oneC (m : List (List UInt8)) (s : ByteArray) (p : Nat) (er : Int) : SC × Nat × Int :=
  let p1 := nP s p er
  let e1 := nE s p er
  let p2 := nP s p1 e1
  let e2 := tN m s p1 e1
  let p3 := nP s p2 e2
  let e3 := tN m s p2 e2
  let p4 := nP s p3 e3
  let e4 := nE s p3 e3
  let p5 := nP s p4 e4
  let e5 := tN m s p4 e4
  (⟨(nV s p er : Nat), tT m s p1 e1, tT m s p2 e2, (nV s p3 e3 : Nat), tT m s p4 e4, (listL (oneT m s) s p5 e5).1⟩, (listL (oneT m s) s p5 e5).2)

theorem ok_O (m : List (List UInt8)) (s : ByteArray) : Okp s (oneO m s) := fun q e hq he => ok_list (ok_M m s) _ _ (nP_in s _ _ (nP_in s q e hq)) (tN_ok m s _ _ (tN_ok m s q e he))
theorem ok_C (m : List (List UInt8)) (s : ByteArray) : Okp s (oneC m s) := fun q e hq he => ok_list (ok_T m s) _ _ (nP_in s _ _ (nP_in s _ _ (nP_in s _ _ (nP_in s _ _ (nP_in s q e hq))))) (tN_ok m s _ _ (nE_ok s _ _ (tN_ok m s _ _ (tN_ok m s _ _ (nE_ok s q e he)))))

/-- a struct that is being made stands through a list's reading -/
theorem SW.keep {w0 W w w2 : World} {r : Nat} {s : ByteArray} {p q : Nat} {er e2 : Int} {t : TypeId} {b : Nat} {cs : Array Value} (h : SW w0 r s p er W t b cs w) (x : PD w0 r s q e2 w2) (f : Fr [r] w w2) : SW w0 r s q e2 W t b cs w2 := h.read x f
end Go.Proofs.Ytdmmkjijgoiecaa.re

/-
  record: an object read.
-/
namespace Go.Proofs.Ytdmmkjijgoiecaa.re
open Go.RowKit Go.Shelf Go.Proofs.Ytdmmkjijgoiecaa.mem Go.Proofs.Ytdmmkjijgoiecaa.sy Go.Proofs.Ytdmmkjijgoiecaa.vr Go.Proofs.Ytdmmkjijgoiecaa.po

theorem uO : Try.prog.underlying 76 = some (.struct (Try.prog.fieldsOf 76)) := by kernel_rfl

set_option maxRecDepth 100000 in
set_option maxHeartbeats 4000000 in
theorem obj_op {w0 : World} {r pb : Nat} {s : ByteArray} {p : Nat} {er : Int} {pA : Option Addr} {pc : Nat} {m : List (List UInt8)} {w : World} (hp : Pl w0 pb pA pc m) (hm : m.length ≤ 1000000) (hml : ∀ x ∈ m, x.length ≤ maxLen) (hs : s.size ≤ maxLen) (hps : p ≤ s.size) (he6 : er ≠ 6) (h : PD w0 r s p er w) :
    Calls Try.prog 30 #[rdV r pb] w (OP EOb MO.o r (PD w0 r s) (oneO m s p er).1 (oneO m s p er).2.1 (oneO m s p er).2.2 w) := by
  obtain ⟨W, hWe⟩ : ∃ W, Hid (W = (w.alloc (.cells #[.pointer (some ⟨r, 0, none⟩), .pointer (some ⟨pb, 0, none⟩)] 70)).alloc (.cells #[.string ⟨#[]⟩, .string ⟨#[]⟩, .slice none 0 0] 76)) := ⟨_, Lib.hid rfl⟩
  have hz : (w.alloc (.cells #[.pointer (some ⟨r, 0, none⟩), .pointer (some ⟨pb, 0, none⟩)] 70)).heap.size = w.heap.size + 1 := Array.size_push _
  have hW : PD w0 r s p er W := by rw [hWe.out]; exact (h.alloc _).alloc _
  have hf : Hid (Fr [] w W) := Lib.hid (by rw [hWe.out]; exact ((Fr.refl [] w).alloc _).alloc _)
  have B0 : Box W w.heap.size 70 #[.pointer (some ⟨r, 0, none⟩), .pointer (some ⟨pb, 0, none⟩)] := by rw [hWe.out]; exact (Box.new w _ _).kept ((Fr.refl [] _).alloc _) (by simp)
  have B1 : Box W (w.heap.size + 1) 76 #[.string ⟨#[]⟩, .string ⟨#[]⟩, .slice none 0 0] := by rw [hWe.out, ← hz]; exact Box.new _ _ _
  have hrl := h.lt
  have n0 : w.heap.size ≠ r := by omega
  have n1 : w.heap.size + 1 ≠ r := by omega
  have HB : Hid (∀ w2, Fr [r] W w2 → Box w2 w.heap.size 70 #[.pointer (some ⟨r, 0, none⟩), .pointer (some ⟨pb, 0, none⟩)] ∧ Box w2 (w.heap.size + 1) 76 #[.string ⟨#[]⟩, .string ⟨#[]⟩, .slice none 0 0]) := Lib.hid (fun w2 f => ⟨B0.kept f (by simpa using n0), B1.kept f (by simpa using n1)⟩)
  have HT := Lib.hid (fun (w2 : World) (q : Nat) (e : Int) (hq : q ≤ s.size) (x : PD w0 r s q e w2) => text_any (pb := pb) hp hm hs hq x)
  have HN := Lib.hid (fun (w2 : World) (q : Nat) (e : Int) (hq : q ≤ s.size) (x : PD w0 r s q e w2) => rd_number w2 r s q e x.rd hs hq)
  have hW0 : Hid (w0.heap.size ≤ W.heap.size) := Lib.hid hW.be.size
  have hrW : Hid (r < W.heap.size) := Lib.hid hW.lt
  have q1 := Lib.hid (nP_in s p er hps)
  have q2 := Lib.hid (nP_in s (nP s p er) (tN m s p er) q1.out)
  have e1 := tN_ok m s p er he6
  have E2h := Lib.hid (tN_ok m s (nP s p er) (tN m s p er) e1)
  have hend : Hid (∀ (w8 : World) (q : Nat) (e : Int) (b3 : Nat) (cs : Array Value) (x y z : Value), SW w0 r s q e W 76 b3 cs w8 → Box ((((w8).setCell ⟨w.heap.size + 1, 0, none⟩ x).setCell ⟨w.heap.size + 1, 1, none⟩ y).setCell ⟨w.heap.size + 1, 2, none⟩ z) (w.heap.size + 1) 76 #[x, y, z] ∧ PD w0 r s q e ((((w8).setCell ⟨w.heap.size + 1, 0, none⟩ x).setCell ⟨w.heap.size + 1, 1, none⟩ y).setCell ⟨w.heap.size + 1, 2, none⟩ z) ∧ Fr [r] w ((((w8).setCell ⟨w.heap.size + 1, 0, none⟩ x).setCell ⟨w.heap.size + 1, 1, none⟩ y).setCell ⟨w.heap.size + 1, 2, none⟩ z) ∧ Fr [w.heap.size + 1] w8 ((((w8).setCell ⟨w.heap.size + 1, 0, none⟩ x).setCell ⟨w.heap.size + 1, 1, none⟩ y).setCell ⟨w.heap.size + 1, 2, none⟩ z)) := Lib.hid (fun w8 q e b3 cs x y z g => by
    have b := (HB.out w8 g.fr).2
    have l0 : w0.heap.size ≤ w.heap.size + 1 := Nat.le_trans h.be.size (Nat.le_succ _)
    have fa : Fr [r] w w8 := hf.out.trans g.fr (by simp) (fun x hx => Or.inl hx)
    exact ⟨(((b).put 0 x).put 1 y).put 2 z, (((g.pd).set n1 l0 0 x).set n1 l0 1 y).set n1 l0 2 z, (((fa).setCell (p := ⟨w.heap.size + 1, 0, none⟩) (Or.inr (Nat.le_succ _)) x).setCell (p := ⟨w.heap.size + 1, 1, none⟩) (Or.inr (Nat.le_succ _)) y).setCell (p := ⟨w.heap.size + 1, 2, none⟩) (Or.inr (Nat.le_succ _)) z, ((((Fr.refl [w.heap.size + 1] w8)).setCell (p := ⟨w.heap.size + 1, 0, none⟩) (Or.inl (by simp)) x).setCell (p := ⟨w.heap.size + 1, 1, none⟩) (Or.inl (by simp)) y).setCell (p := ⟨w.heap.size + 1, 2, none⟩) (Or.inl (by simp)) z⟩)
  have K1 := Lib.hid (HT.out W p er hps hW)
  have x0 : W.cell? ⟨w.heap.size, 0, none⟩ = some (.pointer (some ⟨r, 0, none⟩)) := B0.cell 0
  have x1 : W.cell? ⟨w.heap.size, 1, none⟩ = some (.pointer (some ⟨pb, 0, none⟩)) := B0.cell 1
  have HML : Hid (∀ (w2 : World) (q : Nat) (e : Int), q ≤ s.size → e ≠ 6 → PD w0 r s q e w2 → Fr [r] W w2 → Calls Try.prog 61 #[rdV r pb, .func (.func 62) #[] #[.pointer (some ⟨w.heap.size, 0, none⟩)]] w2 (LP2 EMk 2 (fun m : Mk => m) r (PD w0 r s) 98 (listL (oneM m s) s q e).1 (listL (oneM m s) s q e).2.1 (listL (oneM m s) s q e).2.2 w2)) := Lib.hid (fun w2 q e hq he x f => list_mk hs hq x he (Lib.hid (ok_M m s)) (Lib.hid (fun w3 q3 e3 hq3 he3 x3 f3 => mark_op hp hm hml hs hq3 x3 ((HB.out w2 f).1.kept f3 (by simpa using n0)) n0)))
  have sa : Hid ((tT m s p er).size ≤ maxLen) := Lib.hid (tT_size m s _ _ hml)
  have sb : Hid ((tT m s (nP s p er) (tN m s p er)).size ≤ maxLen) := Lib.hid (tT_size m s _ _ hml)
  have hlo : Hid (w.heap.size + 1 < W.heap.size) := Lib.hid B1.lt
  unfold PP at HT K1
  unfold OP oneO
  dsimp only
  clear hp hm hml hs hps h hW B0 B1 hrl n0 n1 hf he6 e1 HN
  unfold rdV at *
  generalize tT m s p er = a at *
  generalize nP s p er = p1 at *
  generalize tN m s p er = e1 at *
  have HK2 := Lib.hid (fun (w3 : World) (x : PD w0 r s p1 e1 w3) => HT.out w3 p1 e1 q1.out x)
  generalize tT m s p1 e1 = b at *
  generalize nP s p1 e1 = p2 at *
  generalize tN m s p1 e1 = e2 at *
  have HK3 := Lib.hid (fun (w3 : World) (x : PD w0 r s p2 e2 w3) (f : Fr [r] W w3) => HML.out w3 p2 e2 q2.out E2h.out x f)
  generalize (listL (oneM m s) s p2 e2).1 = L at *
  generalize (listL (oneM m s) s p2 e2).2.1 = p3 at *
  generalize (listL (oneM m s) s p2 e2).2.2 = e3 at *
  clear HT HML
  go_enter Try.func30, Try.ntmps30
  go_upto_region 1 with fail
  rw [← hWe.out]
  try rw [hz]
  clear hz hWe
  generalize hbx : w.heap.size = bx at *
  replace hbx := Lib.hid hbx
  go_wp2_with fail
  refine K1.out.mono ?_
  rintro e w2 ⟨rfl, y2, f2⟩
  have S3 := Lib.hid (SW.new y2 f2 hW0.out hrW.out 76 #[.string a, .string ⟨#[]⟩, .slice none 0 0])
  clear y2 f2 K1 x0 x1
  go_upto_region 2 with fail
  generalize w2.alloc (.cells #[.string a, .string ⟨#[]⟩, .slice none 0 0] 76) = w3 at *
  generalize w2.heap.size = b3 at *
  have x0 : w3.cell? ⟨bx, 0, none⟩ = some (.pointer (some ⟨r, 0, none⟩)) := (HB.out _ S3.out.fr).1.cell 0
  have x1 : w3.cell? ⟨bx, 1, none⟩ = some (.pointer (some ⟨pb, 0, none⟩)) := (HB.out _ S3.out.fr).1.cell 1
  have K2 := Lib.hid (HK2.out w3 S3.out.pd)
  go_wp2_with fail
  refine K2.out.mono ?_
  rintro e w4 ⟨rfl, y4, f4⟩
  have S4 := Lib.hid (S3.out.read y4 f4)
  have c4 := S4.out.bx.cell 1
  have g4 := S4.out.bx.free 1
  clear y4 f4 K2 x0 x1 S3
  go_upto_region 3 with fail
  have S5 := Lib.hid (S4.out.put 1 (.string b))
  generalize w4.setCell ⟨b3, 1, none⟩ (.string b) = w5 at *
  clear c4 g4 S4
  have x0 : w5.cell? ⟨bx, 0, none⟩ = some (.pointer (some ⟨r, 0, none⟩)) := (HB.out _ S5.out.fr).1.cell 0
  have x1 : w5.cell? ⟨bx, 1, none⟩ = some (.pointer (some ⟨pb, 0, none⟩)) := (HB.out _ S5.out.fr).1.cell 1
  have K3 := Lib.hid (HK3.out w5 S5.out.pd S5.out.fr)
  have S5z := Lib.hid (show b3 < w5.heap.size from S5.out.bx.lt)
  unfold LP2 at K3
  go_wp2_with fail
  refine K3.out.mono ?_
  rintro e w6 ⟨A, cap, bs, hL, rfl, sg6, y6, f6, nw6, ok6⟩
  have S6 := Lib.hid (S5.out.read y6 f6)
  have c6 := S6.out.bx.cell 2
  have g6 := S6.out.bx.free 2
  have hfin : Hid (∀ W9, Fr [b3, bx + 1] w6 W9 → PD w0 r s p3 e3 W9 → Fr [r] w W9 → ∃ x : MO, (Ending.returned (.agg #[.string a, .string b, .slice A bs.length cap]) : Ending) = .returned (.agg (EOb.row x).toArray) ∧ MO.o x = (⟨a, b, L⟩ : SO) ∧ PD w0 r s p3 e3 W9 ∧ Fr [r] w W9 ∧ EOb.ok W9 x ∧ ∀ y ∈ EOb.bl x, bx ≤ y) := Lib.hid (by
    intro W9 f9 d9 r9
    have n9 : ∀ g ∈ blk A, g ∉ [b3, bx + 1] := fun g hg h1 => by
      have a1 := nw6 g hg
      have a2 := S5z.out
      have a3 := hlo.out
      have a4 := S5.out.fr.size
      simp only [List.mem_cons, List.not_mem_nil, or_false] at h1
      omega
    have sg9 := sg6.kept f9 n9
    refine ⟨⟨⟨a, b, bs⟩, A, cap⟩, rfl, by rw [← hL, List.map_id'], d9, r9, ⟨⟨sa.out, sb.out, sg_tbl (f := mkRow) (fun _ => rfl) (by decide) sg9, Nat.le_trans sg9.le sg9.max, fun x hx => (ok6 x hx).1.1, fun x hx => (ok6 x hx).1.2, sg9.le⟩, fun g hg => sg9.lt g hg⟩, fun y hy => ?_⟩
    have a1 := nw6 y hy
    have a4 := S5.out.fr.size
    have a3 := hlo.out
    omega)
  clear y6 f6 K3 x0 x1 S5 sg6 nw6 ok6 hL sa sb
  generalize bs.length = z at *
  go_upto_region 4 with fail
  have S7 := Lib.hid (S6.out.put 2 (.slice A z cap))
  have F7 : Hid (Fr [b3, bx + 1] w6 (w6.setCell ⟨b3, 2, none⟩ (.slice A z cap))) := Lib.hid ((Fr.refl [b3, bx + 1] w6).setCell (p := ⟨b3, 2, none⟩) (Or.inl (by simp)) _)
  generalize w6.setCell ⟨b3, 2, none⟩ (.slice A z cap) = w7 at *
  clear c6 g6 S6
  have x0 : w7.cell? ⟨b3, 0, none⟩ = some (.string a) := S7.out.bx.cell 0
  have x1 : w7.cell? ⟨b3, 1, none⟩ = some (.string b) := S7.out.bx.cell 1
  have x2 : w7.cell? ⟨b3, 2, none⟩ = some (.slice A z cap) := S7.out.bx.cell 2
  have B7 := Lib.hid (HB.out _ S7.out.fr).2
  have z0 : w7.cell? ⟨bx + 1, 0, none⟩ = some (.string ⟨#[]⟩) := B7.out.cell 0
  have z1 : w7.cell? ⟨bx + 1, 1, none⟩ = some (.string ⟨#[]⟩) := B7.out.cell 1
  have z2 : w7.cell? ⟨bx + 1, 2, none⟩ = some (.slice none 0 0) := B7.out.cell 2
  have v0 := B7.out.free 0
  have v1 := B7.out.free 1
  have v2 := B7.out.free 2
  obtain ⟨hB, hD, hF8, hF9⟩ := hend.out w7 p3 e3 b3 _ (.string a) (.string b) (.slice A z cap) S7.out
  have HB8 := Lib.hid hB
  have HX := Lib.hid (hfin.out _ (F7.out.trans hF9 (fun x hx => Or.inl hx) (fun x hx => Or.inl (by simp only [List.mem_singleton] at hx; subst hx; simp))) hD hF8)
  clear hB hD hF8 hF9 hend hfin
  go_wp2_with fail
  refine bodyPost_ret (results_cell_row rfl _ _ _ _ _ _ _ rfl HB8.out uO rfl (by kernel_rfl)) rfl ?_
  rw [hbx.out]
  exact HX.out
end Go.Proofs.Ytdmmkjijgoiecaa.re

/-
  record: a summary read, plain; lists that were read and lie still.
-/
namespace Go.Proofs.Ytdmmkjijgoiecaa.re
open Go.RowKit Go.Shelf Go.Proofs.Ytdmmkjijgoiecaa.mem Go.Proofs.Ytdmmkjijgoiecaa.sy Go.Proofs.Ytdmmkjijgoiecaa.vr Go.Proofs.Ytdmmkjijgoiecaa.po

def rdG (m : List (List UInt8)) (s : ByteArray) : List ByteArray × Nat × Int := listL (oneT m s) s (nP s 0 0) (tN m s 0 0)
def rdW (m : List (List UInt8)) (s : ByteArray) : List ByteArray × Nat × Int := listL (oneT m s) s (rdG m s).2.1 (rdG m s).2.2
def rdK (m : List (List UInt8)) (s : ByteArray) : List ByteArray × Nat × Int := listL (oneT m s) s (rdW m s).2.1 (rdW m s).2.2
def rdO (m : List (List UInt8)) (s : ByteArray) : List SO × Nat × Int := listL (oneO m s) s (rdK m s).2.1 (rdK m s).2.2
def rdF (m : List (List UInt8)) (s : ByteArray) : List SF × Nat × Int := listL (oneF m s) s (rdO m s).2.1 (rdO m s).2.2
def rdC (m : List (List UInt8)) (s : ByteArray) : List SC × Nat × Int := listL (oneC m s) s (rdF m s).2.1 (rdF m s).2.2
def rdE (m : List (List UInt8)) (s : ByteArray) : Int := dE s (rdC m s).2.1 (rdC m s).2.2
def rdA (m : List (List UInt8)) (s : ByteArray) : SU := ⟨tT m s 0 0, (rdG m s).1, (rdW m s).1, (rdK m s).1, ⟨(rdO m s).1, (rdF m s).1, (rdC m s).1⟩⟩
def su0 : SU := ⟨⟨#[]⟩, [], [], [], ⟨[], [], []⟩⟩
def rdS (m : List (List UInt8)) (s : ByteArray) : SU := if rdE m s = 0 then rdA m s else su0

/-- a summary read, and what is wrong -/
def RDP (S : SU) (er : Int) (w : World) (e : Ending) (w' : World) : Prop := ∃ u : MU, e = .returned (.tuple #[u.val, .int .i64 er]) ∧ u.su = S ∧ SumM w' u ∧ Below w.heap.size w w'

theorem in_N (m : List (List UInt8)) (s : ByteArray) : nP s 0 0 ≤ s.size ∧ tN m s 0 0 ≠ 6 := ok_T m s 0 0 (Nat.zero_le _) (by decide)
theorem in_G (m : List (List UInt8)) (s : ByteArray) : (rdG m s).2.1 ≤ s.size ∧ (rdG m s).2.2 ≠ 6 := ok_list (ok_T m s) _ _ (in_N m s).1 (in_N m s).2
theorem in_W (m : List (List UInt8)) (s : ByteArray) : (rdW m s).2.1 ≤ s.size ∧ (rdW m s).2.2 ≠ 6 := ok_list (ok_T m s) _ _ (in_G m s).1 (in_G m s).2
theorem in_K (m : List (List UInt8)) (s : ByteArray) : (rdK m s).2.1 ≤ s.size ∧ (rdK m s).2.2 ≠ 6 := ok_list (ok_T m s) _ _ (in_W m s).1 (in_W m s).2
theorem in_O (m : List (List UInt8)) (s : ByteArray) : (rdO m s).2.1 ≤ s.size ∧ (rdO m s).2.2 ≠ 6 := ok_list (ok_O m s) _ _ (in_K m s).1 (in_K m s).2
theorem in_F (m : List (List UInt8)) (s : ByteArray) : (rdF m s).2.1 ≤ s.size ∧ (rdF m s).2.2 ≠ 6 := ok_list (ok_F m s) _ _ (in_O m s).1 (in_O m s).2
theorem in_C (m : List (List UInt8)) (s : ByteArray) : (rdC m s).2.1 ≤ s.size ∧ (rdC m s).2.2 ≠ 6 := ok_list (ok_C m s) _ _ (in_F m s).1 (in_F m s).2

/-- a list of elements that lies still, above -/
structure LL {β : Type} (E : El β) (sz : Nat) (e : TypeId) (lo : Nat) (A : Option Addr) (cap : Nat) (bs : List β) (w : World) : Prop where
  sg : Sg sz w e A cap bs.length (bs.flatMap E.row)
  nw : ∀ x ∈ blk A, lo ≤ x
  ok : ∀ b ∈ bs, E.ok w b ∧ ∀ x ∈ E.bl b, lo ≤ x
theorem LL.kept {β : Type} {E : El β} {sz : Nat} {e : TypeId} {lo : Nat} {A : Option Addr} {cap : Nat} {bs : List β} {w w' : World} {F : List Nat} (G : E.Good sz) (h : LL E sz e lo A cap bs w) (f : Fr F w w') (hF : ∀ x ∈ F, x < lo) : LL E sz e lo A cap bs w' :=
  ⟨h.sg.kept f (fun x hx h1 => by have := h.nw x hx; have := hF x h1; omega), h.nw, fun b hb => ⟨G.kept (h.ok b hb).1 f (fun x hx h1 => by have := (h.ok b hb).2 x hx; have := hF x h1; omega), (h.ok b hb).2⟩⟩

/-- a list of texts that lies still, above -/
structure TL1 (lo : Nat) (A : Option Addr) (cap : Nat) (xs : List ByteArray) (w : World) : Prop where
  rd : Rd w A (xs.map Value.string)
  nw : ∀ x ∈ blk A, lo ≤ x
theorem TL1.kept {lo : Nat} {A : Option Addr} {cap : Nat} {xs : List ByteArray} {w w' : World} {F : List Nat} (h : TL1 lo A cap xs w) (f : Fr F w w') (hF : ∀ x ∈ F, x < lo) : TL1 lo A cap xs w' :=
  ⟨h.rd.kept f (fun x hx h1 => by have := h.nw x hx; have := hF x h1; omega), h.nw⟩

theorem sum_read {lo : Nat} {gA wA kA oA fA cA : Option Addr} {gc wc kc oc fc cc : Nat} {g w k : List ByteArray} {os : List MO} {fs : List SF} {cs : List MC} {eO eF eC : TypeId} {W : World} (n : ByteArray) (hg : TL1 lo gA gc g W) (hw : TL1 lo wA wc w W) (hk : TL1 lo kA kc k W) (ho : LL EOb 3 eO lo oA oc os W) (hf : LL EFn 3 eF lo fA fc fs W) (hc : LL ECo 6 eC lo cA cc cs W) :
    SumM W ⟨n, gA, gc, g, wA, wc, w, kA, kc, k, ⟨oA, oc, os, fA, fc, fs, cA, cc, cs⟩⟩ :=
  ⟨hg.rd, hw.rd, hk.rd, ⟨sg_tbl (f := MO.row) (fun _ => rfl) (by decide) ho.sg, sg_tbl (f := fnRow) (fun _ => rfl) (by decide) hf.sg, sg_tbl (f := MC.row) (fun _ => rfl) (by decide) hc.sg, fun x hx => (ho.ok x hx).1.1, fun x hx => (hf.ok x hx).1, fun x hx => (hc.ok x hx).1.1, Nat.le_trans ho.sg.le ho.sg.max, Nat.le_trans hf.sg.le hf.sg.max, Nat.le_trans hc.sg.le hc.sg.max⟩⟩

theorem LP2.ll {α β : Type} {E : El β} {sz : Nat} {pr : β → α} {r : Nat} {D : Nat → Int → World → Prop} {e : TypeId} {L : List α} {q : Nat} {eq : Int} {w w' : World} {en : Ending} {lo : Nat} (h : LP2 E sz pr r D e L q eq w en w') (hl : lo ≤ w.heap.size) : ∃ A cap bs, bs.map pr = L ∧ en = .returned (.slice A bs.length cap) ∧ LL E sz e lo A cap bs w' ∧ D q eq w' ∧ Fr [r] w w' := by
  obtain ⟨A, cap, bs, h1, h2, h3, h4, h5, h6, h7⟩ := h
  exact ⟨A, cap, bs, h1, h2, ⟨h3, fun x hx => Nat.le_trans hl (h6 x hx), fun b hb => ⟨(h7 b hb).1, fun x hx => Nat.le_trans hl ((h7 b hb).2 x hx)⟩⟩, h4, h5⟩
theorem LP.tl {w0 : World} {r : Nat} {s : ByteArray} {e : TypeId} {n : Nat} {xs : List ByteArray} {q : Nat} {eq : Int} {w w' : World} {en : Ending} {lo : Nat} (h : LP w0 r s e n (xs.map Value.string) q eq w en w') (hl : lo ≤ w.heap.size) : ∃ A cap, en = .returned (.slice A n cap) ∧ TL1 lo A cap xs w' ∧ PD w0 r s q eq w' ∧ Fr [r] w w' := by
  obtain ⟨A, cap, h1, h2, h3, h4, h5⟩ := h
  exact ⟨A, cap, h1, ⟨h2.rd, fun x hx => Nat.le_trans hl (h5 x hx)⟩, h3, h4⟩
end Go.Proofs.Ytdmmkjijgoiecaa.re
