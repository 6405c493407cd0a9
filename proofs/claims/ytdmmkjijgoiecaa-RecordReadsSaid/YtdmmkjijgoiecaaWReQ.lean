import Derived.Test.YtdmmkjijgoiecaaW4
set_option linter.all false
/-
  record: a constraint read.
-/
namespace Go.Proofs.Ytdmmkjijgoiecaa.re
open Go.RowKit Go.Shelf Go.Proofs.Ytdmmkjijgoiecaa.mem Go.Proofs.Ytdmmkjijgoiecaa.sy Go.Proofs.Ytdmmkjijgoiecaa.vr Go.Proofs.Ytdmmkjijgoiecaa.po

theorem uC : Try.prog.underlying 84 = some (.struct (Try.prog.fieldsOf 84)) := by kernel_rfl

set_option maxRecDepth 100000 in
set_option maxHeartbeats 4000000 in
theorem con_op {w0 : World} {r pb : Nat} {s : ByteArray} {p : Nat} {er : Int} {pA : Option Addr} {pc : Nat} {m : List (List UInt8)} {w : World} (hp : Pl w0 pb pA pc m) (hm : m.length ≤ 1000000) (hml : ∀ x ∈ m, x.length ≤ maxLen) (hs : s.size ≤ maxLen) (hps : p ≤ s.size) (he6 : er ≠ 6) (h : PD w0 r s p er w) :
    Calls Try.prog 34 #[rdV r pb] w (OP ECo MC.c r (PD w0 r s) (oneC m s p er).1 (oneC m s p er).2.1 (oneC m s p er).2.2 w) := by
  obtain ⟨W, hWe⟩ : ∃ W, Hid (W = (w.alloc (.cells #[.pointer (some ⟨r, 0, none⟩), .pointer (some ⟨pb, 0, none⟩)] 70)).alloc (.cells #[.int .i64 0, .string ⟨#[]⟩, .string ⟨#[]⟩, .int .i64 0, .string ⟨#[]⟩, .slice none 0 0] 84)) := ⟨_, Lib.hid rfl⟩
  have hz : (w.alloc (.cells #[.pointer (some ⟨r, 0, none⟩), .pointer (some ⟨pb, 0, none⟩)] 70)).heap.size = w.heap.size + 1 := Array.size_push _
  have hW : PD w0 r s p er W := by rw [hWe.out]; exact (h.alloc _).alloc _
  have hf : Hid (Fr [] w W) := Lib.hid (by rw [hWe.out]; exact ((Fr.refl [] w).alloc _).alloc _)
  have B0 : Box W w.heap.size 70 #[.pointer (some ⟨r, 0, none⟩), .pointer (some ⟨pb, 0, none⟩)] := by rw [hWe.out]; exact (Box.new w _ _).kept ((Fr.refl [] _).alloc _) (by simp)
  have B1 : Box W (w.heap.size + 1) 84 #[.int .i64 0, .string ⟨#[]⟩, .string ⟨#[]⟩, .int .i64 0, .string ⟨#[]⟩, .slice none 0 0] := by rw [hWe.out, ← hz]; exact Box.new _ _ _
  have hrl := h.lt
  have n0 : w.heap.size ≠ r := by omega
  have n1 : w.heap.size + 1 ≠ r := by omega
  have HB : Hid (∀ w2, Fr [r] W w2 → Box w2 w.heap.size 70 #[.pointer (some ⟨r, 0, none⟩), .pointer (some ⟨pb, 0, none⟩)] ∧ Box w2 (w.heap.size + 1) 84 #[.int .i64 0, .string ⟨#[]⟩, .string ⟨#[]⟩, .int .i64 0, .string ⟨#[]⟩, .slice none 0 0]) := Lib.hid (fun w2 f => ⟨B0.kept f (by simpa using n0), B1.kept f (by simpa using n1)⟩)
  have HT := Lib.hid (fun (w2 : World) (q : Nat) (e : Int) (hq : q ≤ s.size) (x : PD w0 r s q e w2) => text_any (pb := pb) hp hm hs hq x)
  have HN := Lib.hid (fun (w2 : World) (q : Nat) (e : Int) (hq : q ≤ s.size) (x : PD w0 r s q e w2) => rd_number w2 r s q e x.rd hs hq)
  have hW0 : Hid (w0.heap.size ≤ W.heap.size) := Lib.hid hW.be.size
  have hrW : Hid (r < W.heap.size) := Lib.hid hW.lt
  have q1 := Lib.hid (nP_in s p er hps)
  have q2 := Lib.hid (nP_in s (nP s p er) (nE s p er) q1.out)
  have hend : Hid (∀ (w8 : World) (q : Nat) (e : Int) (b3 : Nat) (cs : Array Value) (x0 x1 x2 x3 x4 x5 : Value), SW w0 r s q e W 84 b3 cs w8 → Box (((((((w8).setCell ⟨w.heap.size + 1, 0, none⟩ x0).setCell ⟨w.heap.size + 1, 1, none⟩ x1).setCell ⟨w.heap.size + 1, 2, none⟩ x2).setCell ⟨w.heap.size + 1, 3, none⟩ x3).setCell ⟨w.heap.size + 1, 4, none⟩ x4).setCell ⟨w.heap.size + 1, 5, none⟩ x5) (w.heap.size + 1) 84 #[x0, x1, x2, x3, x4, x5] ∧ PD w0 r s q e (((((((w8).setCell ⟨w.heap.size + 1, 0, none⟩ x0).setCell ⟨w.heap.size + 1, 1, none⟩ x1).setCell ⟨w.heap.size + 1, 2, none⟩ x2).setCell ⟨w.heap.size + 1, 3, none⟩ x3).setCell ⟨w.heap.size + 1, 4, none⟩ x4).setCell ⟨w.heap.size + 1, 5, none⟩ x5) ∧ Fr [r] w (((((((w8).setCell ⟨w.heap.size + 1, 0, none⟩ x0).setCell ⟨w.heap.size + 1, 1, none⟩ x1).setCell ⟨w.heap.size + 1, 2, none⟩ x2).setCell ⟨w.heap.size + 1, 3, none⟩ x3).setCell ⟨w.heap.size + 1, 4, none⟩ x4).setCell ⟨w.heap.size + 1, 5, none⟩ x5) ∧ Fr [w.heap.size + 1] w8 (((((((w8).setCell ⟨w.heap.size + 1, 0, none⟩ x0).setCell ⟨w.heap.size + 1, 1, none⟩ x1).setCell ⟨w.heap.size + 1, 2, none⟩ x2).setCell ⟨w.heap.size + 1, 3, none⟩ x3).setCell ⟨w.heap.size + 1, 4, none⟩ x4).setCell ⟨w.heap.size + 1, 5, none⟩ x5)) := Lib.hid (fun w8 q e b3 cs x0 x1 x2 x3 x4 x5 g => by
    have b := (HB.out w8 g.fr).2
    have l0 : w0.heap.size ≤ w.heap.size + 1 := Nat.le_trans h.be.size (Nat.le_succ _)
    have fa : Fr [r] w w8 := hf.out.trans g.fr (by simp) (fun x hx => Or.inl hx)
    exact ⟨((((((b).put 0 x0).put 1 x1).put 2 x2).put 3 x3).put 4 x4).put 5 x5, ((((((g.pd).set n1 l0 0 x0).set n1 l0 1 x1).set n1 l0 2 x2).set n1 l0 3 x3).set n1 l0 4 x4).set n1 l0 5 x5, ((((((fa).setCell (p := ⟨w.heap.size + 1, 0, none⟩) (Or.inr (Nat.le_succ _)) x0).setCell (p := ⟨w.heap.size + 1, 1, none⟩) (Or.inr (Nat.le_succ _)) x1).setCell (p := ⟨w.heap.size + 1, 2, none⟩) (Or.inr (Nat.le_succ _)) x2).setCell (p := ⟨w.heap.size + 1, 3, none⟩) (Or.inr (Nat.le_succ _)) x3).setCell (p := ⟨w.heap.size + 1, 4, none⟩) (Or.inr (Nat.le_succ _)) x4).setCell (p := ⟨w.heap.size + 1, 5, none⟩) (Or.inr (Nat.le_succ _)) x5, (((((((Fr.refl [w.heap.size + 1] w8)).setCell (p := ⟨w.heap.size + 1, 0, none⟩) (Or.inl (by simp)) x0).setCell (p := ⟨w.heap.size + 1, 1, none⟩) (Or.inl (by simp)) x1).setCell (p := ⟨w.heap.size + 1, 2, none⟩) (Or.inl (by simp)) x2).setCell (p := ⟨w.heap.size + 1, 3, none⟩) (Or.inl (by simp)) x3).setCell (p := ⟨w.heap.size + 1, 4, none⟩) (Or.inl (by simp)) x4).setCell (p := ⟨w.heap.size + 1, 5, none⟩) (Or.inl (by simp)) x5⟩)
  have K1 := Lib.hid (HN.out W p er hps hW)
  have x0 : W.cell? ⟨w.heap.size, 0, none⟩ = some (.pointer (some ⟨r, 0, none⟩)) := B0.cell 0
  have hTS : Hid (∀ p e, (tT m s p e).size ≤ maxLen) := Lib.hid (fun p e => tT_size m s p e hml)
  have hQ : Hid (∀ p e, p ≤ s.size → nP s p e ≤ s.size) := Lib.hid (fun p e hp => nP_in s p e hp)
  have hNE : Hid (∀ p e, e ≠ 6 → nE s p e ≠ 6) := Lib.hid (fun p e he => nE_ok s p e he)
  have hTE : Hid (∀ p e, e ≠ 6 → tN m s p e ≠ 6) := Lib.hid (fun p e he => tN_ok m s p e he)
  have HLL : Hid (∀ (w2 : World) (q : Nat) (e : Int), q ≤ s.size → e ≠ 6 → PD w0 r s q e w2 → Calls Try.prog 28 #[rdV r pb, .func (.func 27) #[rdV r pb] #[]] w2 (LP w0 r s 9 (listL (oneT m s) s q e).1.length ((listL (oneT m s) s q e).1.map Value.string) (listL (oneT m s) s q e).2.1 (listL (oneT m s) s q e).2.2 w2)) := Lib.hid (fun w2 q e hq he x => list_str hp hm hs hq x (many_ok s q e he))
  have HTS : Hid (∀ q e k, ∀ x ∈ (goL (oneT m s) k q e).1, x.size ≤ maxLen) := Lib.hid (fun q e k => goT_size m s hml k q e)
  have HGL : Hid (∀ (q : Nat) (e : Int), ∀ x ∈ (listL (oneT m s) s q e).1, x.size ≤ maxLen) := Lib.hid (fun q e => HTS.out _ _ _)
  have hlo : Hid (w.heap.size + 1 < W.heap.size) := Lib.hid B1.lt
  have HO : Hid (∀ w2, RD w2 r s (nP s p er) (nE s p er) → Fr [r] W w2 → PD w0 r s (nP s p er) (nE s p er) w2) := Lib.hid (fun w2 x f => hW.of f x)
  have HOO : Hid (∀ (wa wb : World) (q : Nat) (e : Int) (q2 : Nat) (e2 : Int), PD w0 r s q e wa → RD wb r s q2 e2 → Fr [r] wa wb → PD w0 r s q2 e2 wb) := Lib.hid (fun wa wb q e q2 e2 x y f => x.of f y)
  have E0 := Lib.hid he6
  unfold PP at HT
  unfold DPost at K1 HN
  unfold OP oneC
  dsimp only
  clear hp hm hml hs hps h hW B0 B1 hrl n0 n1 hf he6 HTS q2
  unfold rdV at *
  have E1 := Lib.hid (hNE.out p er E0.out)
  generalize nV s p er = k0 at *
  generalize nP s p er = p1 at *
  generalize nE s p er = e1 at *
  have HK2 := Lib.hid (fun (w3 : World) (x : PD w0 r s p1 e1 w3) => HT.out w3 p1 e1 q1.out x)
  have q2 := Lib.hid (hQ.out p1 e1 q1.out)
  have E2 := Lib.hid (hTE.out p1 e1 E1.out)
  have sa := Lib.hid (hTS.out p1 e1)
  generalize tT m s p1 e1 = a at *
  generalize nP s p1 e1 = p2 at *
  generalize tN m s p1 e1 = e2 at *
  have HK3 := Lib.hid (fun (w3 : World) (x : PD w0 r s p2 e2 w3) => HT.out w3 p2 e2 q2.out x)
  have q3 := Lib.hid (hQ.out p2 e2 q2.out)
  have E3 := Lib.hid (hTE.out p2 e2 E2.out)
  have sb := Lib.hid (hTS.out p2 e2)
  generalize tT m s p2 e2 = b at *
  generalize nP s p2 e2 = p3 at *
  generalize tN m s p2 e2 = e3 at *
  have HK4 := Lib.hid (fun (w3 : World) (x : PD w0 r s p3 e3 w3) => HN.out w3 p3 e3 q3.out x)
  have q4 := Lib.hid (hQ.out p3 e3 q3.out)
  have E4 := Lib.hid (hNE.out p3 e3 E3.out)
  generalize nV s p3 e3 = k3 at *
  generalize nP s p3 e3 = p4 at *
  generalize nE s p3 e3 = e4 at *
  have HK5 := Lib.hid (fun (w3 : World) (x : PD w0 r s p4 e4 w3) => HT.out w3 p4 e4 q4.out x)
  have q5 := Lib.hid (hQ.out p4 e4 q4.out)
  have E5 := Lib.hid (hTE.out p4 e4 E4.out)
  have sc := Lib.hid (hTS.out p4 e4)
  generalize tT m s p4 e4 = c at *
  generalize nP s p4 e4 = p5 at *
  generalize tN m s p4 e4 = e5 at *
  have HK6 := Lib.hid (fun (w3 : World) (x : PD w0 r s p5 e5 w3) => HLL.out w3 p5 e5 q5.out E5.out x)
  have sL := Lib.hid (HGL.out p5 e5)
  generalize (listL (oneT m s) s p5 e5).1 = L at *
  generalize (listL (oneT m s) s p5 e5).2.1 = p6 at *
  generalize (listL (oneT m s) s p5 e5).2.2 = e6 at *
  clear HT HLL HN HGL hTS hQ hNE hTE E0 E1 E2 E3 E4 E5 q1 q2 q3 q4 q5
  go_enter Try.func34, Try.ntmps34
  go_upto_region 1 with fail
  rw [← hWe.out]
  try rw [hz]
  clear hz hWe
  generalize hbx : w.heap.size = bx at *
  replace hbx := Lib.hid hbx
  go_wp2_with fail
  refine K1.out.mono ?_
  rintro e w2 ⟨rfl, y2, f2⟩
  have S3 := Lib.hid (SW.new (HO.out w2 y2 f2) f2 hW0.out hrW.out 84 #[.int .i64 (k0 : Int), .string ⟨#[]⟩, .string ⟨#[]⟩, .int .i64 0, .string ⟨#[]⟩, .slice none 0 0])
  clear y2 f2 K1 x0 HO
  go_upto_region 2 with fail
  generalize w2.alloc (.cells #[.int .i64 (k0 : Int), .string ⟨#[]⟩, .string ⟨#[]⟩, .int .i64 0, .string ⟨#[]⟩, .slice none 0 0] 84) = w3 at *
  generalize w2.heap.size = b3 at *
  have x0 : w3.cell? ⟨bx, 0, none⟩ = some (.pointer (some ⟨r, 0, none⟩)) := (HB.out _ S3.out.fr).1.cell 0
  have x1 : w3.cell? ⟨bx, 1, none⟩ = some (.pointer (some ⟨pb, 0, none⟩)) := (HB.out _ S3.out.fr).1.cell 1
  have K2 := Lib.hid (HK2.out w3 S3.out.pd)
  go_wp2_with fail
  refine K2.out.mono ?_
  rintro e w4 ⟨rfl, y4, f4⟩
  have T4 := Lib.hid (S3.out.read y4 f4)
  have c4 := T4.out.bx.cell 1
  have g4 := T4.out.bx.free 1
  clear y4 f4 K2 x0 x1 S3 HK2
  go_upto_region 3 with fail
  have Sw5 := Lib.hid (T4.out.put 1 (.string a))
  generalize w4.setCell ⟨b3, 1, none⟩ (.string a) = w5 at *
  clear c4 g4 T4
  have x0 : w5.cell? ⟨bx, 0, none⟩ = some (.pointer (some ⟨r, 0, none⟩)) := (HB.out _ Sw5.out.fr).1.cell 0
  have x1 : w5.cell? ⟨bx, 1, none⟩ = some (.pointer (some ⟨pb, 0, none⟩)) := (HB.out _ Sw5.out.fr).1.cell 1
  have K2 := Lib.hid (HK3.out w5 Sw5.out.pd)
  go_wp2_with fail
  refine K2.out.mono ?_
  rintro e w6 ⟨rfl, y4, f4⟩
  have T4 := Lib.hid (Sw5.out.read y4 f4)
  have c4 := T4.out.bx.cell 2
  have g4 := T4.out.bx.free 2
  clear y4 f4 K2 x0 x1 Sw5 HK3
  go_upto_region 4 with fail
  have Sw7 := Lib.hid (T4.out.put 2 (.string b))
  generalize w6.setCell ⟨b3, 2, none⟩ (.string b) = w7 at *
  clear c4 g4 T4
  have x0 : w7.cell? ⟨bx, 0, none⟩ = some (.pointer (some ⟨r, 0, none⟩)) := (HB.out _ Sw7.out.fr).1.cell 0
  have x1 : w7.cell? ⟨bx, 1, none⟩ = some (.pointer (some ⟨pb, 0, none⟩)) := (HB.out _ Sw7.out.fr).1.cell 1
  have K2 := Lib.hid (HK4.out w7 Sw7.out.pd)
  go_wp2_with fail
  refine K2.out.mono ?_
  rintro e w8 ⟨rfl, y4, f4⟩
  have T4 := Lib.hid (Sw7.out.read (HOO.out _ _ _ _ _ _ Sw7.out.pd y4 f4) f4)
  have c4 := T4.out.bx.cell 3
  have g4 := T4.out.bx.free 3
  clear y4 f4 K2 x0 x1 Sw7 HK4
  go_upto_region 5 with fail
  have Sw9 := Lib.hid (T4.out.put 3 (.int .i64 (k3 : Int)))
  generalize w8.setCell ⟨b3, 3, none⟩ (.int .i64 (k3 : Int)) = w9 at *
  clear c4 g4 T4
  have x0 : w9.cell? ⟨bx, 0, none⟩ = some (.pointer (some ⟨r, 0, none⟩)) := (HB.out _ Sw9.out.fr).1.cell 0
  have x1 : w9.cell? ⟨bx, 1, none⟩ = some (.pointer (some ⟨pb, 0, none⟩)) := (HB.out _ Sw9.out.fr).1.cell 1
  have K2 := Lib.hid (HK5.out w9 Sw9.out.pd)
  go_wp2_with fail
  refine K2.out.mono ?_
  rintro e w10 ⟨rfl, y4, f4⟩
  have T4 := Lib.hid (Sw9.out.read y4 f4)
  have c4 := T4.out.bx.cell 4
  have g4 := T4.out.bx.free 4
  clear y4 f4 K2 x0 x1 Sw9 HK5
  go_upto_region 6 with fail
  have Sw11 := Lib.hid (T4.out.put 4 (.string c))
  generalize w10.setCell ⟨b3, 4, none⟩ (.string c) = w11 at *
  clear c4 g4 T4
  have x0 : w11.cell? ⟨bx, 0, none⟩ = some (.pointer (some ⟨r, 0, none⟩)) := (HB.out _ Sw11.out.fr).1.cell 0
  have x1 : w11.cell? ⟨bx, 1, none⟩ = some (.pointer (some ⟨pb, 0, none⟩)) := (HB.out _ Sw11.out.fr).1.cell 1
  have K3 := Lib.hid (HK6.out w11 Sw11.out.pd)
  have S5z := Lib.hid (show b3 < w11.heap.size from Sw11.out.bx.lt)
  unfold LP at K3
  go_wp2_with fail
  refine K3.out.mono ?_
  rintro e wx ⟨A, cap, rfl, sg6, y6, f6, nw6⟩
  have T6 := Lib.hid (Sw11.out.read y6 f6)
  have c6 := T6.out.bx.cell 5
  have g6 := T6.out.bx.free 5
  have hfin : Hid (∀ W9, Fr [b3, bx + 1] wx W9 → PD w0 r s p6 e6 W9 → Fr [r] w W9 → ∃ x : MC, (Ending.returned (.agg #[.int .i64 (k0 : Int), .string a, .string b, .int .i64 (k3 : Int), .string c, .slice A L.length cap]) : Ending) = .returned (.agg (ECo.row x).toArray) ∧ MC.c x = (⟨(k0 : Int), a, b, (k3 : Int), c, L⟩ : SC) ∧ PD w0 r s p6 e6 W9 ∧ Fr [r] w W9 ∧ ECo.ok W9 x ∧ ∀ y ∈ ECo.bl x, bx ≤ y) := Lib.hid (by
    intro W9 f9 d9 r9
    have n9 : ∀ g ∈ blk A, g ∉ [b3, bx + 1] := fun g hg h1 => by
      have a1 := nw6 g hg
      have a2 := S5z.out
      have a3 := hlo.out
      have a4 := Sw11.out.fr.size
      simp only [List.mem_cons, List.not_mem_nil, or_false] at h1
      omega
    have sg9 := sg6.kept f9 n9
    have le9 : L.length ≤ cap := by have := sg9.1; rwa [List.length_map] at this
    refine ⟨⟨⟨(k0 : Int), a, b, (k3 : Int), c, L⟩, A, cap⟩, rfl, rfl, d9, r9, ⟨⟨sa.out, sb.out, sc.out, sg9.rd, Nat.le_trans le9 sg9.2.1, le9, sL.out⟩, fun g hg => sg9.lt g hg⟩, fun y hy => ?_⟩
    have a1 := nw6 y hy
    have a4 := Sw11.out.fr.size
    have a3 := hlo.out
    omega)
  clear y6 f6 K3 x0 x1 Sw11 sg6 nw6 sa sb sc sL
  generalize L.length = z at *
  go_upto_region 7 with fail
  have S7 := Lib.hid (T6.out.put 5 (.slice A z cap))
  have F7 : Hid (Fr [b3, bx + 1] wx (wx.setCell ⟨b3, 5, none⟩ (.slice A z cap))) := Lib.hid ((Fr.refl [b3, bx + 1] wx).setCell (p := ⟨b3, 5, none⟩) (Or.inl (by simp)) _)
  generalize wx.setCell ⟨b3, 5, none⟩ (.slice A z cap) = wy at *
  clear c6 g6 T6
  have x0 : wy.cell? ⟨b3, 0, none⟩ = some (.int .i64 (k0 : Int)) := S7.out.bx.cell 0
  have x1 : wy.cell? ⟨b3, 1, none⟩ = some (.string a) := S7.out.bx.cell 1
  have x2 : wy.cell? ⟨b3, 2, none⟩ = some (.string b) := S7.out.bx.cell 2
  have x3 : wy.cell? ⟨b3, 3, none⟩ = some (.int .i64 (k3 : Int)) := S7.out.bx.cell 3
  have x4 : wy.cell? ⟨b3, 4, none⟩ = some (.string c) := S7.out.bx.cell 4
  have x5 : wy.cell? ⟨b3, 5, none⟩ = some (.slice A z cap) := S7.out.bx.cell 5
  have B7 := Lib.hid (HB.out _ S7.out.fr).2
  have z0 : wy.cell? ⟨bx + 1, 0, none⟩ = some (.int .i64 0) := B7.out.cell 0
  have v0 := B7.out.free 0
  have z1 : wy.cell? ⟨bx + 1, 1, none⟩ = some (.string ⟨#[]⟩) := B7.out.cell 1
  have v1 := B7.out.free 1
  have z2 : wy.cell? ⟨bx + 1, 2, none⟩ = some (.string ⟨#[]⟩) := B7.out.cell 2
  have v2 := B7.out.free 2
  have z3 : wy.cell? ⟨bx + 1, 3, none⟩ = some (.int .i64 0) := B7.out.cell 3
  have v3 := B7.out.free 3
  have z4 : wy.cell? ⟨bx + 1, 4, none⟩ = some (.string ⟨#[]⟩) := B7.out.cell 4
  have v4 := B7.out.free 4
  have z5 : wy.cell? ⟨bx + 1, 5, none⟩ = some (.slice none 0 0) := B7.out.cell 5
  have v5 := B7.out.free 5
  obtain ⟨hB, hD, hF8, hF9⟩ := hend.out wy p6 e6 b3 _ (.int .i64 (k0 : Int)) (.string a) (.string b) (.int .i64 (k3 : Int)) (.string c) (.slice A z cap) S7.out
  have HB8 := Lib.hid hB
  have HX := Lib.hid (hfin.out _ (F7.out.trans hF9 (fun x hx => Or.inl hx) (fun x hx => Or.inl (by simp only [List.mem_singleton] at hx; subst hx; simp))) hD hF8)
  clear hB hD hF8 hF9 hend hfin
  go_wp2_with fail
  refine bodyPost_ret (results_cell_row rfl _ _ _ _ _ _ _ rfl HB8.out uC rfl (by kernel_rfl)) rfl ?_
  rw [hbx.out]
  exact HX.out
end Go.Proofs.Ytdmmkjijgoiecaa.re
