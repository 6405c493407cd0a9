import Derived.Test.YtdmmkjijgoiecaaWReQ
import Derived.Test.YtdmmkjijgoiecaaW4
set_option linter.all false
/-
  record: Read.
-/
namespace Go.Proofs.Ytdmmkjijgoiecaa.re
open Go.RowKit Go.Shelf Go.Proofs.Ytdmmkjijgoiecaa.mem Go.Proofs.Ytdmmkjijgoiecaa.sy Go.Proofs.Ytdmmkjijgoiecaa.vr Go.Proofs.Ytdmmkjijgoiecaa.po

theorem uSm : Try.prog.underlying 29 = some (.struct (Try.prog.fieldsOf 29)) := by kernel_rfl

theorem results_cell_tmp {P : Program} {fn : Func} {p q : Tmp} {ty : TypeId} (h : fn.results = #[.cell p ty, .tmp q]) (tmps : Array Value) (w : World) (g : Nat) (t : TypeId) (cs : Array Value) (fr : Nat × Nat) (d : TypeDesc) (v : Value)
    (hp : tmps.getD p undef = .pointer (some ⟨g, 0, none⟩)) (hq : tmps.getD q undef = v) (hg : w.heap[g]? = some (.cells cs t fr))
    (hu : P.underlying ty = some d) (hd : (match d with | .struct _ | .array _ _ => true | _ => false) = true) (hi : (P.info? ty).map (·.size) = some cs.size) :
    (results fn tmps).run P w = .ok (.tuple #[.agg cs, v]) w := by
  subst hq
  have hp' : tmps[p]?.getD undef = .pointer (some ⟨g, 0, none⟩) := by simpa using hp
  simp [results, h, hp', asAddr, run_loadVar_row w g t ty cs fr d hg hu hd hi]

theorem seven (w8 : World) (W : World) (b : Nat) (t : TypeId) (z0 z1 z2 z3 z4 z5 z6 : Value) (x0 x1 x2 x3 x4 x5 x6 : Value) (hb : Box w8 b t #[z0, z1, z2, z3, z4, z5, z6]) (hw : Below W.heap.size W w8) (hl : W.heap.size ≤ b) :
    Box (((((((w8.setCell ⟨b, 0, none⟩ x0).setCell ⟨b, 1, none⟩ x1).setCell ⟨b, 2, none⟩ x2).setCell ⟨b, 3, none⟩ x3).setCell ⟨b, 4, none⟩ x4).setCell ⟨b, 5, none⟩ x5).setCell ⟨b, 6, none⟩ x6) b t #[x0, x1, x2, x3, x4, x5, x6] ∧ Below W.heap.size W (((((((w8.setCell ⟨b, 0, none⟩ x0).setCell ⟨b, 1, none⟩ x1).setCell ⟨b, 2, none⟩ x2).setCell ⟨b, 3, none⟩ x3).setCell ⟨b, 4, none⟩ x4).setCell ⟨b, 5, none⟩ x5).setCell ⟨b, 6, none⟩ x6) ∧ Fr [b] w8 (((((((w8.setCell ⟨b, 0, none⟩ x0).setCell ⟨b, 1, none⟩ x1).setCell ⟨b, 2, none⟩ x2).setCell ⟨b, 3, none⟩ x3).setCell ⟨b, 4, none⟩ x4).setCell ⟨b, 5, none⟩ x5).setCell ⟨b, 6, none⟩ x6) := by
  have f : Fr [b] w8 (((((((w8.setCell ⟨b, 0, none⟩ x0).setCell ⟨b, 1, none⟩ x1).setCell ⟨b, 2, none⟩ x2).setCell ⟨b, 3, none⟩ x3).setCell ⟨b, 4, none⟩ x4).setCell ⟨b, 5, none⟩ x5).setCell ⟨b, 6, none⟩ x6) :=
    (((((((Fr.refl [b] w8).setCell (p := ⟨b, 0, none⟩) (Or.inl (by simp)) x0).setCell (p := ⟨b, 1, none⟩) (Or.inl (by simp)) x1).setCell (p := ⟨b, 2, none⟩) (Or.inl (by simp)) x2).setCell (p := ⟨b, 3, none⟩) (Or.inl (by simp)) x3).setCell (p := ⟨b, 4, none⟩) (Or.inl (by simp)) x4).setCell (p := ⟨b, 5, none⟩) (Or.inl (by simp)) x5).setCell (p := ⟨b, 6, none⟩) (Or.inl (by simp)) x6
  have b0 : Box (w8.setCell ⟨b, 0, none⟩ x0) b t #[x0, z1, z2, z3, z4, z5, z6] := hb.put 0 x0
  clear hb
  generalize w8.setCell ⟨b, 0, none⟩ x0 = v0 at *
  have b1 : Box (v0.setCell ⟨b, 1, none⟩ x1) b t #[x0, x1, z2, z3, z4, z5, z6] := b0.put 1 x1
  clear b0
  generalize v0.setCell ⟨b, 1, none⟩ x1 = v1 at *
  have b2 : Box (v1.setCell ⟨b, 2, none⟩ x2) b t #[x0, x1, x2, z3, z4, z5, z6] := b1.put 2 x2
  clear b1
  generalize v1.setCell ⟨b, 2, none⟩ x2 = v2 at *
  have b3 : Box (v2.setCell ⟨b, 3, none⟩ x3) b t #[x0, x1, x2, x3, z4, z5, z6] := b2.put 3 x3
  clear b2
  generalize v2.setCell ⟨b, 3, none⟩ x3 = v3 at *
  have b4 : Box (v3.setCell ⟨b, 4, none⟩ x4) b t #[x0, x1, x2, x3, x4, z5, z6] := b3.put 4 x4
  clear b3
  generalize v3.setCell ⟨b, 4, none⟩ x4 = v4 at *
  have b5 : Box (v4.setCell ⟨b, 5, none⟩ x5) b t #[x0, x1, x2, x3, x4, x5, z6] := b4.put 5 x5
  clear b4
  generalize v4.setCell ⟨b, 5, none⟩ x5 = v5 at *
  exact ⟨b5.put 6 x6, below_fr hw f (fun x hx => by rw [List.mem_singleton] at hx; omega), f⟩

set_option maxRecDepth 100000 in
set_option maxHeartbeats 8000000 in
theorem read_any {pb : Nat} {s : ByteArray} {pA : Option Addr} {pc : Nat} {m : List (List UInt8)} {w : World} (hp : Pl w pb pA pc m) (hm : m.length ≤ 1000000) (hml : ∀ x ∈ m, x.length ≤ maxLen) (hs : s.size ≤ maxLen) :
    Calls Try.prog 16 #[.pointer (some ⟨pb, 0, none⟩), .string s] w (RDP (rdS m s) (rdE m s) w) := by
  obtain ⟨W1, hW1⟩ : ∃ W1, Hid (W1 = w.alloc (.cells #[.string ⟨#[]⟩, .slice none 0 0, .slice none 0 0, .slice none 0 0, .slice none 0 0, .slice none 0 0, .slice none 0 0] 29)) := ⟨_, Lib.hid rfl⟩
  obtain ⟨W2, hW2⟩ : ∃ W2, Hid (W2 = W1.alloc (.cells #[.string s, .int .i64 0, .int .i64 0] 118)) := ⟨_, Lib.hid rfl⟩
  obtain ⟨r, hr⟩ : ∃ r, Hid (r = W1.heap.size) := ⟨_, Lib.hid rfl⟩
  obtain ⟨W, hWe⟩ : ∃ W, Hid (W = W2.alloc (.cells #[.pointer (some ⟨r, 0, none⟩), .pointer (some ⟨pb, 0, none⟩)] 70)) := ⟨_, Lib.hid rfl⟩
  have z1 : W1.heap.size = w.heap.size + 1 := by rw [hW1.out]; exact Array.size_push _
  have z2 : W2.heap.size = w.heap.size + 2 := by rw [hW2.out]; show (W1.heap.push _).size = _; rw [Array.size_push, z1]
  have z3 : W.heap.size = w.heap.size + 3 := by rw [hWe.out]; show (W2.heap.push _).size = _; rw [Array.size_push, z2]
  have KN : Hid (Calls Try.prog 26 #[.string s] W1 fun e w' => e = .returned (.pointer (some ⟨r, 0, none⟩)) ∧ W2 = w') := Lib.hid (by
    rw [hW2.out, hr.out]
    exact (rd_new s W1).mono (fun e w' h => ⟨h.1, h.2.symm⟩))
  have f01 : Fr [] w W1 := by rw [hW1.out]; exact (Fr.refl [] w).alloc _
  have f12 : Fr [] W1 W2 := by rw [hW2.out]; exact (Fr.refl [] W1).alloc _
  have f23 : Fr [] W2 W := by rw [hWe.out]; exact (Fr.refl [] W2).alloc _
  have be : Below w.heap.size w W := by
    have f1 : Fr [] w W2 := f01.trans f12 (fun x hx => Or.inl hx) (fun x hx => Or.inl hx)
    have f : Fr [] w W := f1.trans f23 (fun x hx => Or.inl hx) (fun x hx => Or.inl hx)
    exact f.below (by simp) (Nat.le_refl _)
  have hW : PD w r s 0 0 W := by
    refine ⟨⟨?_⟩, be, by rw [hr.out, z1]; omega⟩
    have b : Box W2 r 118 #[.string s, .int .i64 0, .int .i64 0] := by rw [hW2.out, hr.out]; exact Box.new _ _ _
    exact b.kept f23 (by simp)
  have B0 : Box W (w.heap.size + 2) 70 #[.pointer (some ⟨r, 0, none⟩), .pointer (some ⟨pb, 0, none⟩)] := by rw [hWe.out, ← z2]; exact Box.new _ _ _
  have B1 : Box W w.heap.size 29 #[.string ⟨#[]⟩, .slice none 0 0, .slice none 0 0, .slice none 0 0, .slice none 0 0, .slice none 0 0, .slice none 0 0] := by
    have b : Box W1 w.heap.size 29 #[.string ⟨#[]⟩, .slice none 0 0, .slice none 0 0, .slice none 0 0, .slice none 0 0, .slice none 0 0, .slice none 0 0] := by rw [hW1.out]; exact Box.new _ _ _
    exact (b.kept f12 (by simp)).kept f23 (by simp)
  have hrv : r = w.heap.size + 1 := by rw [hr.out, z1]
  have n0 : w.heap.size + 2 ≠ r := by omega
  have n1 : w.heap.size ≠ r := by omega
  have HB : Hid (∀ w2, Fr [r] W w2 → Box w2 (w.heap.size + 2) 70 #[.pointer (some ⟨r, 0, none⟩), .pointer (some ⟨pb, 0, none⟩)] ∧ Box w2 w.heap.size 29 #[.string ⟨#[]⟩, .slice none 0 0, .slice none 0 0, .slice none 0 0, .slice none 0 0, .slice none 0 0, .slice none 0 0]) := Lib.hid (fun w2 f => ⟨B0.kept f (by simpa using n0), B1.kept f (by simpa using n1)⟩)
  have HEnd : Hid (∀ (w8 : World) (q : Nat) (e : Int) (b3 : Nat) (cs : Array Value) (x0 x1 x2 x3 x4 x5 x6 : Value), SW w r s q e W 29 b3 cs w8 → Box (((((((w8.setCell ⟨w.heap.size, 0, none⟩ x0).setCell ⟨w.heap.size, 1, none⟩ x1).setCell ⟨w.heap.size, 2, none⟩ x2).setCell ⟨w.heap.size, 3, none⟩ x3).setCell ⟨w.heap.size, 4, none⟩ x4).setCell ⟨w.heap.size, 5, none⟩ x5).setCell ⟨w.heap.size, 6, none⟩ x6) w.heap.size 29 #[x0, x1, x2, x3, x4, x5, x6] ∧ Below w.heap.size w (((((((w8.setCell ⟨w.heap.size, 0, none⟩ x0).setCell ⟨w.heap.size, 1, none⟩ x1).setCell ⟨w.heap.size, 2, none⟩ x2).setCell ⟨w.heap.size, 3, none⟩ x3).setCell ⟨w.heap.size, 4, none⟩ x4).setCell ⟨w.heap.size, 5, none⟩ x5).setCell ⟨w.heap.size, 6, none⟩ x6) ∧ Fr [w.heap.size] w8 (((((((w8.setCell ⟨w.heap.size, 0, none⟩ x0).setCell ⟨w.heap.size, 1, none⟩ x1).setCell ⟨w.heap.size, 2, none⟩ x2).setCell ⟨w.heap.size, 3, none⟩ x3).setCell ⟨w.heap.size, 4, none⟩ x4).setCell ⟨w.heap.size, 5, none⟩ x5).setCell ⟨w.heap.size, 6, none⟩ x6)) := Lib.hid (fun w8 q e b3 cs x0 x1 x2 x3 x4 x5 x6 g => seven w8 w w.heap.size _ _ _ _ _ _ _ _ x0 x1 x2 x3 x4 x5 x6 (HB.out w8 g.fr).2 g.pd.be (Nat.le_refl _))
  have hLow : Hid (r < W.heap.size ∧ w.heap.size < W.heap.size) := Lib.hid ⟨by omega, by omega⟩
  have K1 := Lib.hid (text_any (w0 := w) (pb := pb) hp hm hs (Nat.zero_le _) hW)
  have HTL : Hid (∀ (w2 : World) (q : Nat) (e : Int), q ≤ s.size → e ≠ 6 → PD w r s q e w2 → Calls Try.prog 28 #[rdV r pb, .func (.func 27) #[rdV r pb] #[]] w2 (LP w r s 9 (listL (oneT m s) s q e).1.length ((listL (oneT m s) s q e).1.map Value.string) (listL (oneT m s) s q e).2.1 (listL (oneT m s) s q e).2.2 w2)) := Lib.hid (fun w2 q e hq he x => list_str hp hm hs hq x (many_ok s q e he))
  have HK0 := Lib.hid (fun (w2 : World) (x : PD w r s (nP s 0 0) (tN m s 0 0) w2) => HTL.out w2 _ _ (in_N m s).1 (in_N m s).2 x)
  have HK1 := Lib.hid (fun (w2 : World) (x : PD w r s (rdG m s).2.1 (rdG m s).2.2 w2) => HTL.out w2 _ _ (in_G m s).1 (in_G m s).2 x)
  have HK2 := Lib.hid (fun (w2 : World) (x : PD w r s (rdW m s).2.1 (rdW m s).2.2 w2) => HTL.out w2 _ _ (in_W m s).1 (in_W m s).2 x)
  have HK3 := Lib.hid (fun (w2 : World) (x : PD w r s (rdK m s).2.1 (rdK m s).2.2 w2) => list_ob (pb := pb) hs (in_K m s).1 x (in_K m s).2 (Lib.hid (ok_O m s)) (Lib.hid (fun w3 q3 e3 hq3 he3 x3 f3 => obj_op hp hm hml hs hq3 he3 x3)))
  have HK4 := Lib.hid (fun (w2 : World) (x : PD w r s (rdO m s).2.1 (rdO m s).2.2 w2) => list_fn (pb := pb) hs (in_O m s).1 x (in_O m s).2 (Lib.hid (ok_F m s)) (Lib.hid (fun w3 q3 e3 hq3 he3 x3 f3 => fn_op hp hm hml hs hq3 x3)))
  have HK5 := Lib.hid (fun (w2 : World) (x : PD w r s (rdF m s).2.1 (rdF m s).2.2 w2) => list_co (pb := pb) hs (in_F m s).1 x (in_F m s).2 (Lib.hid (ok_C m s)) (Lib.hid (fun w3 q3 e3 hq3 he3 x3 f3 => con_op hp hm hml hs hq3 he3 x3)))
  have KD := Lib.hid (fun (w2 : World) (x : PD w r s (rdC m s).2.1 (rdC m s).2.2 w2) => rd_done w2 r s (rdC m s).2.1 (rdC m s).2.2 x.rd)
  have HDn : Hid (∀ wa wb, PD w r s (rdC m s).2.1 (rdC m s).2.2 wa → RD wb r s (rdC m s).2.1 (rdC m s).2.2 → Fr [r] wa wb → PD w r s (rdC m s).2.1 (rdC m s).2.2 wb) := Lib.hid (fun wa wb x y f => x.of f y)
  change Hid (∀ (w2 : World) (x : PD w r s (nP s 0 0) (tN m s 0 0) w2), Calls _ _ _ w2 (LP w r s _ (rdG m s).1.length ((rdG m s).1.map Value.string) (rdG m s).2.1 (rdG m s).2.2 w2)) at HK0
  change Hid (∀ (w2 : World) (x : PD w r s (rdG m s).2.1 (rdG m s).2.2 w2), Calls _ _ _ w2 (LP w r s _ (rdW m s).1.length ((rdW m s).1.map Value.string) (rdW m s).2.1 (rdW m s).2.2 w2)) at HK1
  change Hid (∀ (w2 : World) (x : PD w r s (rdW m s).2.1 (rdW m s).2.2 w2), Calls _ _ _ w2 (LP w r s _ (rdK m s).1.length ((rdK m s).1.map Value.string) (rdK m s).2.1 (rdK m s).2.2 w2)) at HK2
  change Hid (∀ (w2 : World) (x : PD w r s (rdK m s).2.1 (rdK m s).2.2 w2), Calls _ _ _ w2 (LP2 EOb 3 MO.o r (PD w r s) _ (rdO m s).1 (rdO m s).2.1 (rdO m s).2.2 w2)) at HK3
  change Hid (∀ (w2 : World) (x : PD w r s (rdO m s).2.1 (rdO m s).2.2 w2), Calls _ _ _ w2 (LP2 EFn 3 (fun m : SF => m) r (PD w r s) _ (rdF m s).1 (rdF m s).2.1 (rdF m s).2.2 w2)) at HK4
  change Hid (∀ (w2 : World) (x : PD w r s (rdF m s).2.1 (rdF m s).2.2 w2), Calls _ _ _ w2 (LP2 ECo 6 MC.c r (PD w r s) _ (rdC m s).1 (rdC m s).2.1 (rdC m s).2.2 w2)) at HK5
  have hSU : Hid (rdE m s = 0 → rdS m s = ⟨tT m s 0 0, (rdG m s).1, (rdW m s).1, (rdK m s).1, ⟨(rdO m s).1, (rdF m s).1, (rdC m s).1⟩⟩) := Lib.hid (fun h => by unfold rdS; rw [if_pos h]; rfl)
  have hSU0 : Hid (rdE m s ≠ 0 → rdS m s = su0) := Lib.hid (fun h => by unfold rdS; rw [if_neg h])
  have x0 : W.cell? ⟨w.heap.size + 2, 0, none⟩ = some (.pointer (some ⟨r, 0, none⟩)) := B0.cell 0
  have x1 : W.cell? ⟨w.heap.size + 2, 1, none⟩ = some (.pointer (some ⟨pb, 0, none⟩)) := B0.cell 1
  have hW0 : Hid (w.heap.size ≤ W.heap.size) := Lib.hid (by omega)
  have hE : Hid (dE s (rdC m s).2.1 (rdC m s).2.2 = rdE m s) := Lib.hid rfl
  unfold PP at K1
  unfold DPost at KD
  rw [hE.out] at KD
  clear hp hm hml hs hW B0 B1 n0 n1 f01 f12 f23 be HTL hE hrv
  unfold rdV at *
  generalize tT m s 0 0 = a at *
  generalize nP s 0 0 = p0 at *
  generalize tN m s 0 0 = e0 at *
  generalize (rdG m s).1 = lg at *
  generalize (rdG m s).2.1 = p1 at *
  generalize (rdG m s).2.2 = e1 at *
  generalize (rdW m s).1 = lw at *
  generalize (rdW m s).2.1 = p2 at *
  generalize (rdW m s).2.2 = e2 at *
  generalize (rdK m s).1 = lk at *
  generalize (rdK m s).2.1 = p3 at *
  generalize (rdK m s).2.2 = e3 at *
  generalize (rdO m s).1 = lo at *
  generalize (rdO m s).2.1 = p4 at *
  generalize (rdO m s).2.2 = e4 at *
  generalize (rdF m s).1 = lf at *
  generalize (rdF m s).2.1 = p5 at *
  generalize (rdF m s).2.2 = e5 at *
  generalize (rdC m s).1 = lc at *
  generalize (rdC m s).2.1 = p6 at *
  generalize (rdC m s).2.2 = e6 at *
  generalize rdE m s = E at *
  generalize rdS m s = V at *
  go_enter Try.func16, Try.ntmps16
  go_upto_region 1 with fail
  rw [← hW1.out]
  go_wp2_with fail
  refine KN.out.mono ?_
  rintro e w' ⟨rfl, rfl⟩
  go_upto_region 2 with fail
  rw [← hWe.out]
  try rw [z2]
  clear KN hW1 hW2 hWe hr z1 z2 z3
  generalize hbx : w.heap.size = bx at *
  replace hbx := Lib.hid hbx
  go_wp2_with fail
  refine K1.out.mono ?_
  rintro e w2 ⟨rfl, y2, f2⟩
  have S3 := Lib.hid (SW.new y2 f2 (by rw [hbx.out]; exact hW0.out) hLow.out.1 29 #[.string a, .slice none 0 0, .slice none 0 0, .slice none 0 0, .slice none 0 0, .slice none 0 0, .slice none 0 0])
  clear y2 f2 K1 x0 x1
  go_upto_region 3 with fail
  generalize w2.alloc (.cells #[.string a, .slice none 0 0, .slice none 0 0, .slice none 0 0, .slice none 0 0, .slice none 0 0, .slice none 0 0] 29) = w3 at *
  generalize w2.heap.size = b3 at *
  have hLo : Hid (∀ x ∈ [r, b3, bx], x < b3 + 1) := Lib.hid (fun x hx => by
    have h1 := S3.out.nw
    have h2 := hLow.out
    simp only [List.mem_cons, List.not_mem_nil, or_false] at hx
    omega)
  have x0 : w3.cell? ⟨bx + 2, 0, none⟩ = some (.pointer (some ⟨r, 0, none⟩)) := (HB.out _ S3.out.fr).1.cell 0
  have x1 : w3.cell? ⟨bx + 2, 1, none⟩ = some (.pointer (some ⟨pb, 0, none⟩)) := (HB.out _ S3.out.fr).1.cell 1
  have KX := Lib.hid (HK0.out w3 S3.out.pd)
  have hz3 : b3 + 1 ≤ w3.heap.size := S3.out.bx.lt
  go_wp2_with fail
  refine KX.out.mono ?_
  rintro e w4 hP
  obtain ⟨gA, gc, rfl, tl, y4, f4⟩ := LP.tl hP hz3
  have Tg := Lib.hid tl
  have T4 := Lib.hid (S3.out.read y4 f4)
  have c4 := T4.out.bx.cell 1
  have g4 := T4.out.bx.free 1
  clear y4 f4 KX x0 x1 S3 HK0 hP hz3 tl
  go_upto_region 4 with fail
  have Sw5 := Lib.hid (T4.out.put 1 (.slice gA lg.length gc))
  have F4 : Hid (Fr [b3] w4 (w4.setCell ⟨b3, 1, none⟩ (.slice gA lg.length gc))) := Lib.hid ((Fr.refl [b3] w4).setCell (p := ⟨b3, 1, none⟩) (Or.inl (by simp)) _)
  generalize w4.setCell ⟨b3, 1, none⟩ (.slice gA lg.length gc) = w5 at *
  have Tg := Lib.hid (Tg.out.kept F4.out (fun x hx => hLo.out x (by rw [List.mem_singleton] at hx; subst hx; simp)))
  clear c4 g4 T4 F4
  have x0 : w5.cell? ⟨bx + 2, 0, none⟩ = some (.pointer (some ⟨r, 0, none⟩)) := (HB.out _ Sw5.out.fr).1.cell 0
  have x1 : w5.cell? ⟨bx + 2, 1, none⟩ = some (.pointer (some ⟨pb, 0, none⟩)) := (HB.out _ Sw5.out.fr).1.cell 1
  have KX := Lib.hid (HK1.out w5 Sw5.out.pd)
  have hz3 : b3 + 1 ≤ w5.heap.size := Sw5.out.bx.lt
  go_wp2_with fail
  refine KX.out.mono ?_
  rintro e w6 hP
  obtain ⟨wA, wc, rfl, tl, y4, f4⟩ := LP.tl hP hz3
  have Tg := Lib.hid (Tg.out.kept f4 (fun x hx => hLo.out x (by rw [List.mem_singleton] at hx; subst hx; simp)))
  have Tw := Lib.hid tl
  have T4 := Lib.hid (Sw5.out.read y4 f4)
  have c4 := T4.out.bx.cell 2
  have g4 := T4.out.bx.free 2
  clear y4 f4 KX x0 x1 Sw5 HK1 hP hz3 tl
  go_upto_region 5 with fail
  have Sw7 := Lib.hid (T4.out.put 2 (.slice wA lw.length wc))
  have F4 : Hid (Fr [b3] w6 (w6.setCell ⟨b3, 2, none⟩ (.slice wA lw.length wc))) := Lib.hid ((Fr.refl [b3] w6).setCell (p := ⟨b3, 2, none⟩) (Or.inl (by simp)) _)
  generalize w6.setCell ⟨b3, 2, none⟩ (.slice wA lw.length wc) = w7 at *
  have Tg := Lib.hid (Tg.out.kept F4.out (fun x hx => hLo.out x (by rw [List.mem_singleton] at hx; subst hx; simp)))
  have Tw := Lib.hid (Tw.out.kept F4.out (fun x hx => hLo.out x (by rw [List.mem_singleton] at hx; subst hx; simp)))
  clear c4 g4 T4 F4
  have x0 : w7.cell? ⟨bx + 2, 0, none⟩ = some (.pointer (some ⟨r, 0, none⟩)) := (HB.out _ Sw7.out.fr).1.cell 0
  have x1 : w7.cell? ⟨bx + 2, 1, none⟩ = some (.pointer (some ⟨pb, 0, none⟩)) := (HB.out _ Sw7.out.fr).1.cell 1
  have KX := Lib.hid (HK2.out w7 Sw7.out.pd)
  have hz3 : b3 + 1 ≤ w7.heap.size := Sw7.out.bx.lt
  go_wp2_with fail
  refine KX.out.mono ?_
  rintro e w8 hP
  obtain ⟨kA, kc, rfl, tl, y4, f4⟩ := LP.tl hP hz3
  have Tg := Lib.hid (Tg.out.kept f4 (fun x hx => hLo.out x (by rw [List.mem_singleton] at hx; subst hx; simp)))
  have Tw := Lib.hid (Tw.out.kept f4 (fun x hx => hLo.out x (by rw [List.mem_singleton] at hx; subst hx; simp)))
  have Tk := Lib.hid tl
  have T4 := Lib.hid (Sw7.out.read y4 f4)
  have c4 := T4.out.bx.cell 3
  have g4 := T4.out.bx.free 3
  clear y4 f4 KX x0 x1 Sw7 HK2 hP hz3 tl
  go_upto_region 6 with fail
  have Sw9 := Lib.hid (T4.out.put 3 (.slice kA lk.length kc))
  have F4 : Hid (Fr [b3] w8 (w8.setCell ⟨b3, 3, none⟩ (.slice kA lk.length kc))) := Lib.hid ((Fr.refl [b3] w8).setCell (p := ⟨b3, 3, none⟩) (Or.inl (by simp)) _)
  generalize w8.setCell ⟨b3, 3, none⟩ (.slice kA lk.length kc) = w9 at *
  have Tg := Lib.hid (Tg.out.kept F4.out (fun x hx => hLo.out x (by rw [List.mem_singleton] at hx; subst hx; simp)))
  have Tw := Lib.hid (Tw.out.kept F4.out (fun x hx => hLo.out x (by rw [List.mem_singleton] at hx; subst hx; simp)))
  have Tk := Lib.hid (Tk.out.kept F4.out (fun x hx => hLo.out x (by rw [List.mem_singleton] at hx; subst hx; simp)))
  clear c4 g4 T4 F4
  have x0 : w9.cell? ⟨bx + 2, 0, none⟩ = some (.pointer (some ⟨r, 0, none⟩)) := (HB.out _ Sw9.out.fr).1.cell 0
  have x1 : w9.cell? ⟨bx + 2, 1, none⟩ = some (.pointer (some ⟨pb, 0, none⟩)) := (HB.out _ Sw9.out.fr).1.cell 1
  have KX := Lib.hid (HK3.out w9 Sw9.out.pd)
  have hz3 : b3 + 1 ≤ w9.heap.size := Sw9.out.bx.lt
  go_wp2_with fail
  refine KX.out.mono ?_
  rintro e w10 hP
  obtain ⟨oA, oc, ob, ho, rfl, tl, y4, f4⟩ := LP2.ll hP hz3
  replace ho := Lib.hid ho
  have Tg := Lib.hid (Tg.out.kept f4 (fun x hx => hLo.out x (by rw [List.mem_singleton] at hx; subst hx; simp)))
  have Tw := Lib.hid (Tw.out.kept f4 (fun x hx => hLo.out x (by rw [List.mem_singleton] at hx; subst hx; simp)))
  have Tk := Lib.hid (Tk.out.kept f4 (fun x hx => hLo.out x (by rw [List.mem_singleton] at hx; subst hx; simp)))
  have To := Lib.hid tl
  have T4 := Lib.hid (Sw9.out.read y4 f4)
  have c4 := T4.out.bx.cell 4
  have g4 := T4.out.bx.free 4
  clear y4 f4 KX x0 x1 Sw9 HK3 hP hz3 tl
  go_upto_region 7 with fail
  have Sw11 := Lib.hid (T4.out.put 4 (.slice oA ob.length oc))
  have F4 : Hid (Fr [b3] w10 (w10.setCell ⟨b3, 4, none⟩ (.slice oA ob.length oc))) := Lib.hid ((Fr.refl [b3] w10).setCell (p := ⟨b3, 4, none⟩) (Or.inl (by simp)) _)
  generalize w10.setCell ⟨b3, 4, none⟩ (.slice oA ob.length oc) = w11 at *
  have Tg := Lib.hid (Tg.out.kept F4.out (fun x hx => hLo.out x (by rw [List.mem_singleton] at hx; subst hx; simp)))
  have Tw := Lib.hid (Tw.out.kept F4.out (fun x hx => hLo.out x (by rw [List.mem_singleton] at hx; subst hx; simp)))
  have Tk := Lib.hid (Tk.out.kept F4.out (fun x hx => hLo.out x (by rw [List.mem_singleton] at hx; subst hx; simp)))
  have To := Lib.hid (LL.kept gOb To.out F4.out (fun x hx => hLo.out x (by rw [List.mem_singleton] at hx; subst hx; simp)))
  clear c4 g4 T4 F4
  have x0 : w11.cell? ⟨bx + 2, 0, none⟩ = some (.pointer (some ⟨r, 0, none⟩)) := (HB.out _ Sw11.out.fr).1.cell 0
  have x1 : w11.cell? ⟨bx + 2, 1, none⟩ = some (.pointer (some ⟨pb, 0, none⟩)) := (HB.out _ Sw11.out.fr).1.cell 1
  have KX := Lib.hid (HK4.out w11 Sw11.out.pd)
  have hz3 : b3 + 1 ≤ w11.heap.size := Sw11.out.bx.lt
  go_wp2_with fail
  refine KX.out.mono ?_
  rintro e w12 hP
  obtain ⟨fA, fc, fb, hf, rfl, tl, y4, f4⟩ := LP2.ll hP hz3
  replace hf := Lib.hid hf
  have Tg := Lib.hid (Tg.out.kept f4 (fun x hx => hLo.out x (by rw [List.mem_singleton] at hx; subst hx; simp)))
  have Tw := Lib.hid (Tw.out.kept f4 (fun x hx => hLo.out x (by rw [List.mem_singleton] at hx; subst hx; simp)))
  have Tk := Lib.hid (Tk.out.kept f4 (fun x hx => hLo.out x (by rw [List.mem_singleton] at hx; subst hx; simp)))
  have To := Lib.hid (LL.kept gOb To.out f4 (fun x hx => hLo.out x (by rw [List.mem_singleton] at hx; subst hx; simp)))
  have Tf := Lib.hid tl
  have T4 := Lib.hid (Sw11.out.read y4 f4)
  have c4 := T4.out.bx.cell 5
  have g4 := T4.out.bx.free 5
  clear y4 f4 KX x0 x1 Sw11 HK4 hP hz3 tl
  go_upto_region 8 with fail
  have Sw13 := Lib.hid (T4.out.put 5 (.slice fA fb.length fc))
  have F4 : Hid (Fr [b3] w12 (w12.setCell ⟨b3, 5, none⟩ (.slice fA fb.length fc))) := Lib.hid ((Fr.refl [b3] w12).setCell (p := ⟨b3, 5, none⟩) (Or.inl (by simp)) _)
  generalize w12.setCell ⟨b3, 5, none⟩ (.slice fA fb.length fc) = w13 at *
  have Tg := Lib.hid (Tg.out.kept F4.out (fun x hx => hLo.out x (by rw [List.mem_singleton] at hx; subst hx; simp)))
  have Tw := Lib.hid (Tw.out.kept F4.out (fun x hx => hLo.out x (by rw [List.mem_singleton] at hx; subst hx; simp)))
  have Tk := Lib.hid (Tk.out.kept F4.out (fun x hx => hLo.out x (by rw [List.mem_singleton] at hx; subst hx; simp)))
  have To := Lib.hid (LL.kept gOb To.out F4.out (fun x hx => hLo.out x (by rw [List.mem_singleton] at hx; subst hx; simp)))
  have Tf := Lib.hid (LL.kept gFn Tf.out F4.out (fun x hx => hLo.out x (by rw [List.mem_singleton] at hx; subst hx; simp)))
  clear c4 g4 T4 F4
  have x0 : w13.cell? ⟨bx + 2, 0, none⟩ = some (.pointer (some ⟨r, 0, none⟩)) := (HB.out _ Sw13.out.fr).1.cell 0
  have x1 : w13.cell? ⟨bx + 2, 1, none⟩ = some (.pointer (some ⟨pb, 0, none⟩)) := (HB.out _ Sw13.out.fr).1.cell 1
  have KX := Lib.hid (HK5.out w13 Sw13.out.pd)
  have hz3 : b3 + 1 ≤ w13.heap.size := Sw13.out.bx.lt
  go_wp2_with fail
  refine KX.out.mono ?_
  rintro e w14 hP
  obtain ⟨cA, cc, cb, hc, rfl, tl, y4, f4⟩ := LP2.ll hP hz3
  replace hc := Lib.hid hc
  have Tg := Lib.hid (Tg.out.kept f4 (fun x hx => hLo.out x (by rw [List.mem_singleton] at hx; subst hx; simp)))
  have Tw := Lib.hid (Tw.out.kept f4 (fun x hx => hLo.out x (by rw [List.mem_singleton] at hx; subst hx; simp)))
  have Tk := Lib.hid (Tk.out.kept f4 (fun x hx => hLo.out x (by rw [List.mem_singleton] at hx; subst hx; simp)))
  have To := Lib.hid (LL.kept gOb To.out f4 (fun x hx => hLo.out x (by rw [List.mem_singleton] at hx; subst hx; simp)))
  have Tf := Lib.hid (LL.kept gFn Tf.out f4 (fun x hx => hLo.out x (by rw [List.mem_singleton] at hx; subst hx; simp)))
  have Tc := Lib.hid tl
  have T4 := Lib.hid (Sw13.out.read y4 f4)
  have c4 := T4.out.bx.cell 6
  have g4 := T4.out.bx.free 6
  clear y4 f4 KX x0 x1 Sw13 HK5 hP hz3 tl
  go_upto_region 9 with fail
  have Sw15 := Lib.hid (T4.out.put 6 (.slice cA cb.length cc))
  have F4 : Hid (Fr [b3] w14 (w14.setCell ⟨b3, 6, none⟩ (.slice cA cb.length cc))) := Lib.hid ((Fr.refl [b3] w14).setCell (p := ⟨b3, 6, none⟩) (Or.inl (by simp)) _)
  generalize w14.setCell ⟨b3, 6, none⟩ (.slice cA cb.length cc) = w15 at *
  have Tg := Lib.hid (Tg.out.kept F4.out (fun x hx => hLo.out x (by rw [List.mem_singleton] at hx; subst hx; simp)))
  have Tw := Lib.hid (Tw.out.kept F4.out (fun x hx => hLo.out x (by rw [List.mem_singleton] at hx; subst hx; simp)))
  have Tk := Lib.hid (Tk.out.kept F4.out (fun x hx => hLo.out x (by rw [List.mem_singleton] at hx; subst hx; simp)))
  have To := Lib.hid (LL.kept gOb To.out F4.out (fun x hx => hLo.out x (by rw [List.mem_singleton] at hx; subst hx; simp)))
  have Tf := Lib.hid (LL.kept gFn Tf.out F4.out (fun x hx => hLo.out x (by rw [List.mem_singleton] at hx; subst hx; simp)))
  have Tc := Lib.hid (LL.kept gCo Tc.out F4.out (fun x hx => hLo.out x (by rw [List.mem_singleton] at hx; subst hx; simp)))
  clear c4 g4 T4 F4
  have x0 : w15.cell? ⟨bx + 2, 0, none⟩ = some (.pointer (some ⟨r, 0, none⟩)) := (HB.out _ Sw15.out.fr).1.cell 0
  have KX := Lib.hid (KD.out w15 Sw15.out.pd)
  go_wp2_with fail
  refine KX.out.mono ?_
  rintro e wx ⟨rfl, y4, f4⟩
  have Tg := Lib.hid (Tg.out.kept f4 (fun x hx => hLo.out x (by rw [List.mem_singleton] at hx; subst hx; simp)))
  have Tw := Lib.hid (Tw.out.kept f4 (fun x hx => hLo.out x (by rw [List.mem_singleton] at hx; subst hx; simp)))
  have Tk := Lib.hid (Tk.out.kept f4 (fun x hx => hLo.out x (by rw [List.mem_singleton] at hx; subst hx; simp)))
  have To := Lib.hid (LL.kept gOb To.out f4 (fun x hx => hLo.out x (by rw [List.mem_singleton] at hx; subst hx; simp)))
  have Tf := Lib.hid (LL.kept gFn Tf.out f4 (fun x hx => hLo.out x (by rw [List.mem_singleton] at hx; subst hx; simp)))
  have Tc := Lib.hid (LL.kept gCo Tc.out f4 (fun x hx => hLo.out x (by rw [List.mem_singleton] at hx; subst hx; simp)))
  have S9 := Lib.hid (Sw15.out.read (HDn.out _ _ Sw15.out.pd y4 f4) f4)
  clear y4 f4 KX x0 Sw15 KD HDn
  have B7 := Lib.hid (HB.out _ S9.out.fr).2
  have x0 : wx.cell? ⟨b3, 0, none⟩ = some (.string a) := S9.out.bx.cell 0
  have x1 : wx.cell? ⟨b3, 1, none⟩ = some (.slice gA lg.length gc) := S9.out.bx.cell 1
  have x2 : wx.cell? ⟨b3, 2, none⟩ = some (.slice wA lw.length wc) := S9.out.bx.cell 2
  have x3 : wx.cell? ⟨b3, 3, none⟩ = some (.slice kA lk.length kc) := S9.out.bx.cell 3
  have x4 : wx.cell? ⟨b3, 4, none⟩ = some (.slice oA ob.length oc) := S9.out.bx.cell 4
  have x5 : wx.cell? ⟨b3, 5, none⟩ = some (.slice fA fb.length fc) := S9.out.bx.cell 5
  have x6 : wx.cell? ⟨b3, 6, none⟩ = some (.slice cA cb.length cc) := S9.out.bx.cell 6
  have z0 : wx.cell? ⟨bx, 0, none⟩ = some (.string ⟨#[]⟩) := B7.out.cell 0
  have v0 := B7.out.free 0
  have z1 : wx.cell? ⟨bx, 1, none⟩ = some (.slice none 0 0) := B7.out.cell 1
  have v1 := B7.out.free 1
  have z2 : wx.cell? ⟨bx, 2, none⟩ = some (.slice none 0 0) := B7.out.cell 2
  have v2 := B7.out.free 2
  have z3 : wx.cell? ⟨bx, 3, none⟩ = some (.slice none 0 0) := B7.out.cell 3
  have v3 := B7.out.free 3
  have z4 : wx.cell? ⟨bx, 4, none⟩ = some (.slice none 0 0) := B7.out.cell 4
  have v4 := B7.out.free 4
  have z5 : wx.cell? ⟨bx, 5, none⟩ = some (.slice none 0 0) := B7.out.cell 5
  have v5 := B7.out.free 5
  have z6 : wx.cell? ⟨bx, 6, none⟩ = some (.slice none 0 0) := B7.out.cell 6
  have v6 := B7.out.free 6
  by_cases hE : E = 0
  · subst hE
    obtain ⟨hB, hD, hF8⟩ := HEnd.out wx p6 e6 b3 _ (.string a) (.slice gA lg.length gc) (.slice wA lw.length wc) (.slice kA lk.length kc) (.slice oA ob.length oc) (.slice fA fb.length fc) (.slice cA cb.length cc) S9.out
    have HB8 := Lib.hid hB
    have HD8 := Lib.hid hD
    have HF8 := Lib.hid hF8
    have hV := Lib.hid (hSU.out rfl)
    clear hB hD hF8 HEnd hSU hSU0 HB
    go_wp2_with fail
    refine bodyPost_ret (results_cell_tmp rfl _ _ _ _ _ _ _ _ rfl rfl HB8.out uSm rfl (by kernel_rfl)) rfl ?_
    refine ⟨⟨a, gA, gc, lg, wA, wc, lw, kA, kc, lk, ⟨oA, oc, ob, fA, fc, fb, cA, cc, cb⟩⟩, rfl, ?_, ?_, by rw [hbx.out]; exact HD8.out⟩
    · rw [hV.out]
      unfold MU.su MS.sys
      rw [ho.out, hc.out]
      have := hf.out
      rw [List.map_id'] at this
      rw [this]
    · exact sum_read a (Tg.out.kept HF8.out (fun x hx => hLo.out x (by rw [List.mem_singleton] at hx; subst hx; simp))) (Tw.out.kept HF8.out (fun x hx => hLo.out x (by rw [List.mem_singleton] at hx; subst hx; simp))) (Tk.out.kept HF8.out (fun x hx => hLo.out x (by rw [List.mem_singleton] at hx; subst hx; simp))) (LL.kept gOb To.out HF8.out (fun x hx => hLo.out x (by rw [List.mem_singleton] at hx; subst hx; simp))) (LL.kept gFn Tf.out HF8.out (fun x hx => hLo.out x (by rw [List.mem_singleton] at hx; subst hx; simp))) (LL.kept gCo Tc.out HF8.out (fun x hx => hLo.out x (by rw [List.mem_singleton] at hx; subst hx; simp)))
  · have e0 : (E != 0) = true := by simpa using hE
    obtain ⟨hB, hD, hF8⟩ := HEnd.out wx p6 e6 b3 _ (.string ⟨#[]⟩) (.slice none 0 0) (.slice none 0 0) (.slice none 0 0) (.slice none 0 0) (.slice none 0 0) (.slice none 0 0) S9.out
    have HB8 := Lib.hid hB
    have HD8 := Lib.hid hD
    have hV := Lib.hid (hSU0.out hE)
    clear hB hD hF8 HEnd hSU hSU0 HB To Tf Tc Tg Tw Tk hE
    go_wp2_with fail
    refine bodyPost_ret (results_cell_tmp rfl _ _ _ _ _ _ _ _ rfl rfl HB8.out uSm rfl (by kernel_rfl)) rfl ?_
    refine ⟨⟨⟨#[]⟩, none, 0, [], none, 0, [], none, 0, [], ⟨none, 0, [], none, 0, [], none, 0, []⟩⟩, rfl, ?_, ?_, by rw [hbx.out]; exact HD8.out⟩
    · rw [hV.out]; rfl
    · exact ⟨fun h => by simp at h, fun h => by simp at h, fun h => by simp at h, ⟨fun h => by simp at h, fun h => by simp at h, fun h => by simp at h, by simp, by simp, by simp, by simp, by simp, by simp⟩⟩
end Go.Proofs.Ytdmmkjijgoiecaa.re
