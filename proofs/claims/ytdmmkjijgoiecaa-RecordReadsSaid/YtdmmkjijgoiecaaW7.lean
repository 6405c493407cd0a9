import Derived.Test.YtdmmkjijgoiecaaW1
import Derived.Deep.QuietTactic
import Derived.Laws.StructEq
import Derived.Lib.QuietBelow
import Derived.Test.YtdmmkjijgoiecaaWLRe1
import Derived.Test.YtdmmkjijgoiecaaWRgD
set_option linter.all false
/-
  record: the reference's Same of two objects that are the same.
-/
namespace Go.Proofs.Ytdmmkjijgoiecaa.re
open Go.RowKit Go.Shelf Go.Proofs.Ytdmmkjijgoiecaa.mem Go.Proofs.Ytdmmkjijgoiecaa.sy

theorem below_drewN {N : Nat} {W w : World} (h : Below N W w) (hN : N ≤ w.heap.size) (n : Nat) : Below N W (w.drewN n) := h.trans (((Fr.refl [] w).drewN n).below (by simp) hN)

/-- what the walks take of == between marks, and functions -/
structure HeldR : Prop where
  m : ∀ (a : Mk) (w : World), (binOp .neq 98 (.agg #[.int .i64 a.at_, .string a.tag]) (.agg #[.int .i64 a.at_, .string a.tag])).run Try.prog w = .ok (.bool false) w
  f : ∀ (a : SF) (w : World), (binOp .neq 80 (.agg #[.string a.name, .string a.kinds, .string a.ret]) (.agg #[.string a.name, .string a.kinds, .string a.ret])).run Try.prog w = .ok (.bool false) w
  gm : ∀ (op : BinOp) (x y : Operand) (xs ys : Array Value) (w : World), (eqGuard op 98 x y (.agg xs) (.agg ys)).run Try.prog w = .ok () w
  gf : ∀ (op : BinOp) (x y : Operand) (xs ys : Array Value) (w : World), (eqGuard op 80 x y (.agg xs) (.agg ys)).run Try.prog w = .ok () w

theorem under_sfr : Try.prog.underlying 80 = some (.struct (Try.prog.fieldsOf 80)) := by kernel_rfl
theorem stood_sfr : Try.prog.stoodInHeld 80 = false := by kernel_rfl
theorem fields_sfr : (Try.prog.fieldsOf 80).toList.map (fun f => (f.name == "_", f.type, f.offset)) = [(false, 9, 0), (false, 9, 1), (false, 9, 2)] := by kernel_rfl
theorem guard_mkr : Try.prog.eqGuardType Try.prog.depth 98 = false := by kernel_rfl
theorem guard_sfr : Try.prog.eqGuardType Try.prog.depth 80 = false := by kernel_rfl
theorem neq_sfr (a : SF) (w : World) : (binOp .neq 80 (.agg #[.string a.name, .string a.kinds, .string a.ret]) (.agg #[.string a.name, .string a.kinds, .string a.ret])).run Try.prog w = .ok (.bool false) w := by
  rw [run_neq_struct, run_equalIn_struct _ _ _ _ _ under_sfr stood_sfr]
  have h := fields_sfr
  generalize (Try.prog.fieldsOf 80).toList = fs at *
  rcases fs with _ | ⟨f0, _ | ⟨f1, _ | ⟨f2, _ | ⟨f3, fs⟩⟩⟩⟩
  all_goals first | (simp at h; done) | skip
  simp only [List.map_cons, List.map_nil, List.cons.injEq, Prod.mk.injEq, and_true] at h
  obtain ⟨⟨a0, b0, c0⟩, ⟨a1, b1, c1⟩, ⟨a2, b2, c2⟩⟩ := h
  have p0 : (part f0.type #[.string a.name, .string a.kinds, .string a.ret] f0.offset).run Try.prog w = .ok (.string a.name) w := by rw [b0, c0]; kernel_rfl
  have p1 : (part f1.type #[.string a.name, .string a.kinds, .string a.ret] f1.offset).run Try.prog w = .ok (.string a.kinds) w := by rw [b1, c1]; kernel_rfl
  have p2 : (part f2.type #[.string a.name, .string a.kinds, .string a.ret] f2.offset).run Try.prog w = .ok (.string a.ret) w := by rw [b2, c2]; kernel_rfl
  have i0 : (Op.equalIn 9999 f0.type (.string a.name) (.string a.name)).run Try.prog w = .ok (a.name.toList == a.name.toList) w := by rw [b0]; exact run_equalIn_string w 9998 _ _ _ Try.underlying9
  have i1 : (Op.equalIn 9999 f1.type (.string a.kinds) (.string a.kinds)).run Try.prog w = .ok (a.kinds.toList == a.kinds.toList) w := by rw [b1]; exact run_equalIn_string w 9998 _ _ _ Try.underlying9
  have i2 : (Op.equalIn 9999 f2.type (.string a.ret) (.string a.ret)).run Try.prog w = .ok (a.ret.toList == a.ret.toList) w := by rw [b2]; exact run_equalIn_string w 9998 _ _ _ Try.underlying9
  rw [nm.eq_step 9999 _ _ f0 _ _ _ _ w a0 p0 p0 i0, nm.eq_step 9999 _ _ f1 _ _ _ _ w a1 p1 p1 i1, nm.eq_step 9999 _ _ f2 _ _ _ _ w a2 p2 p2 i2]
  simp [Op.eqFields, Sem.run_pure, Result.andThen]
theorem heldR : HeldR := ⟨fun a w => by
  have h := neq_mk a a w
  rw [sameMk_iff.2 rfl] at h
  exact h, neq_sfr, fun op x y xs ys w => run_eqGuard_agg w op _ x y xs ys guard_mkr, fun op x y xs ys w => run_eqGuard_agg w op _ x y xs ys guard_sfr⟩

set_option maxRecDepth 100000 in
set_option maxHeartbeats 2000000 in
theorem sameobj_any (hm : HeldR) (o : SO) (xA yA : Option Addr) (xc yc : Nat) (w : World) (hx : MOk w ⟨o, xA, xc⟩) (hy : MOk w ⟨o, yA, yc⟩) :
    Calls Try.prog 65 #[.agg #[.string o.name, .string o.kinds, .slice xA o.marks.length xc], .agg #[.string o.name, .string o.kinds, .slice yA o.marks.length yc]] w (BPost true w) := by
  obtain ⟨W, hWe⟩ : ∃ W, Hid (W = (w.alloc (.cells #[.string o.name, .string o.kinds, .slice xA o.marks.length xc] 76)).alloc (.cells #[.string o.name, .string o.kinds, .slice yA o.marks.length yc] 76)) := ⟨_, Lib.hid rfl⟩
  have hz : (w.alloc (.cells #[.string o.name, .string o.kinds, .slice xA o.marks.length xc] 76)).heap.size = w.heap.size + 1 := Array.size_push _
  have b1 : Below w.heap.size w (w.alloc (.cells #[.string o.name, .string o.kinds, .slice xA o.marks.length xc] 76)) := (Below.refl _ _).alloc (Nat.le_refl _) _
  have b0 : Below w.heap.size w W := by rw [hWe.out]; exact b1.alloc b1.size _
  have BX : Box W w.heap.size 76 #[.string o.name, .string o.kinds, .slice xA o.marks.length xc] := by rw [hWe.out]; exact (Box.new w _ _).kept ((Fr.refl [] _).alloc _) (by simp)
  have BY : Box W (w.heap.size + 1) 76 #[.string o.name, .string o.kinds, .slice yA o.marks.length yc] := by rw [hWe.out, ← hz]; exact Box.new _ _ _
  have HX : Hid (∀ w2, Below W.heap.size W w2 → Tbl w2 xA 2 (o.marks.map mkRow) ∧ Tbl w2 yA 2 (o.marks.map mkRow)) := Lib.hid (fun w2 b => ⟨(hx.m.below b0).below b, (hy.m.below b0).below b⟩)
  have HC : Hid (∀ w2, Below W.heap.size W w2 → w2.cell? ⟨w.heap.size, 2, none⟩ = some (.slice xA o.marks.length xc) ∧ w2.cell? ⟨w.heap.size + 1, 2, none⟩ = some (.slice yA o.marks.length yc)) := Lib.hid (fun w2 b => ⟨(BX.kept (Fr.of_below b []) (by simp)).cell 2, (BY.kept (Fr.of_below b []) (by simp)).cell 2⟩)
  have HE : Hid (∀ w2, Below W.heap.size W w2 → Below w.heap.size w w2) := Lib.hid (fun w2 b => b0.trans (b.mono b0.size))
  have R0 := Lib.hid (Below.refl W.heap.size W)
  have x0 : W.cell? ⟨w.heap.size, 0, none⟩ = some (.string o.name) := BX.cell 0
  have x1 : W.cell? ⟨w.heap.size, 1, none⟩ = some (.string o.kinds) := BX.cell 1
  have x2 : W.cell? ⟨w.heap.size, 2, none⟩ = some (.slice xA o.marks.length xc) := BX.cell 2
  have y0 : W.cell? ⟨w.heap.size + 1, 0, none⟩ = some (.string o.name) := BY.cell 0
  have y1 : W.cell? ⟨w.heap.size + 1, 1, none⟩ = some (.string o.kinds) := BY.cell 1
  have y2 : W.cell? ⟨w.heap.size + 1, 2, none⟩ = some (.slice yA o.marks.length yc) := BY.cell 2
  have hml := hx.ml
  unfold maxLen at hml
  dsimp only at hml
  have HM := Lib.hid hm
  clear hx hy b1 b0 BX BY hm
  unfold BPost
  generalize hN : o.marks.length = n at *
  replace hN := Lib.hid hN
  have s0 : (o.name.data != o.name.data) = false := by simp
  have s1 : (o.kinds.data != o.kinds.data) = false := by simp
  have s2 : (((n : Nat) : Int) != (n : Int)) = false := by simp
  go_enter Try.func65, Try.ntmps65
  go_upto_region 1 with fail
  rw [← hWe.out]
  try rw [hz]
  clear hz hWe
  generalize hbx : w.heap.size = bx at *
  replace hbx := Lib.hid hbx
  go_wp2_with fail
  clear x0 x1 x2 y0 y1 y2 s0 s1 s2
  go_loopw [5] (fun i wr => ∃ k : Nat, k ≤ n ∧ i = .int .i64 k ∧ Hid (Below W.heap.size W wr)) (fun i _ => n - (intOf i).toNat)
  case atStart => exact ⟨0, by omega, rfl, R0⟩
  case round =>
    obtain ⟨k, hk, rfl, hb⟩ := hrel
    rename World => wr
    obtain ⟨x2, y2⟩ := HC.out wr hb.out
    by_cases hkl : k < n
    · have e1 : decide ((k : Int) < (n : Int)) = true := decide_eq_true (by omega)
      have hkm : k < o.marks.length := by rw [hN.out]; exact hkl
      obtain ⟨t1, t2⟩ := HX.out wr hb.out
      obtain ⟨g1, o1, rfl, hg1, c0, c1⟩ := tbl_mk t1 hkm
      obtain ⟨g2, o2, rfl, hg2, d0, d1⟩ := tbl_mk t2 hkm
      generalize o.marks[k] = a at *
      have EQ := HM.out.m a
      have GU := HM.out.gm
      clear t1 t2 hg1 hg2 hkm
      go_wp2_with fail
      go_quiet (fail)
      have hb2 := Lib.hid (below_drewN hb.out hb.out.size nq)
      go_wp2_with fail
      go_roundw
      case rel => exact ⟨k + 1, by omega, by go_num, hb2⟩
      case measure => simp [intOf]; omega
    · obtain rfl : k = n := by omega
      have e1 : decide ((k : Int) < (k : Int)) = false := decide_eq_false (by omega)
      have E := Lib.hid (HE.out wr hb.out)
      go_wp2_with fail
      go_ret
      exact ⟨rfl, by rw [hbx.out]; exact E.out⟩
end Go.Proofs.Ytdmmkjijgoiecaa.re

/-
  record: the reference's Same of two systems that are the same.
-/
namespace Go.Proofs.Ytdmmkjijgoiecaa.re
open Go.RowKit Go.Sort Go.Shelf Go.Proofs.Ytdmmkjijgoiecaa.mem Go.Proofs.Ytdmmkjijgoiecaa.sy

theorem map_at {α β : Type} (f : α → β) {l m : List α} (h : l.map f = m.map f) {k : Nat} (hk : k < l.length) (hk2 : k < m.length) : f l[k] = f m[k] := by
  have h1 : (l.map f)[k]? = (m.map f)[k]? := by rw [h]
  rw [List.getElem?_map, List.getElem?_map, List.getElem?_eq_getElem hk, List.getElem?_eq_getElem hk2] at h1
  simpa using h1

theorem intC_self (a : Int) : intC a a = 0 := by
  unfold intC
  rw [if_neg (Int.lt_irrefl a), if_neg (Int.lt_irrefl a)]
theorem txtC_self (a : ByteArray) : txtC a a = 0 := by
  have h : lessB a a = false := by
    unfold lessB
    rw [bytesLess_eq]
    simp [List.lt_irrefl]
  unfold txtC
  rw [h]
  rfl
theorem zipC_self : ∀ l : List ByteArray, fstN (List.zipWith txtC l l ++ [0]) = 0
  | [] => rfl
  | a :: l => by
    rw [List.zipWith_cons_cons, txtC_self]
    exact zipC_self l
theorem conC_self (a : SC) : conC a a = 0 := by
  rw [conC_zip, intC_self, intC_self, intC_self, txtC_self, txtC_self, txtC_self, List.append_assoc]
  exact zipC_self a.args

set_option maxRecDepth 100000 in
set_option maxHeartbeats 4000000 in
theorem same15_any (hm : HeldR) (x y : MS) (w : World) (hx : SysM w x) (hy : SysM w y) (e : x.sys = y.sys) (hal : ∀ c ∈ x.sys.cons, c.args.length ≤ 8796093022208) :
    Calls Try.prog 42 #[x.val, y.val] w (BPost true w) := by
  have eo : x.os.map MO.o = y.os.map MO.o := congrArg SS.objs e
  have ef : x.fs = y.fs := congrArg SS.fns e
  have ec : x.cs.map MC.c = y.cs.map MC.c := congrArg SS.cons e
  have lo : x.os.length = y.os.length := by have := congrArg List.length eo; simpa using this
  have lc : x.cs.length = y.cs.length := by have := congrArg List.length ec; simpa using this
  obtain ⟨no, hno⟩ : ∃ n, Hid (n = x.os.length) := ⟨_, Lib.hid rfl⟩
  obtain ⟨nf, hnf⟩ : ∃ n, Hid (n = x.fs.length) := ⟨_, Lib.hid rfl⟩
  obtain ⟨nc, hnc⟩ : ∃ n, Hid (n = x.cs.length) := ⟨_, Lib.hid rfl⟩
  obtain ⟨W, hWe⟩ : ∃ W, Hid (W = (w.alloc (.cells #[.slice x.oA no x.oc, .slice x.fA nf x.fc, .slice x.cA nc x.cc] 27)).alloc (.cells #[.slice y.oA no y.oc, .slice y.fA nf y.fc, .slice y.cA nc y.cc] 27)) := ⟨_, Lib.hid rfl⟩
  have b1 : Below w.heap.size w (w.alloc (.cells #[.slice x.oA no x.oc, .slice x.fA nf x.fc, .slice x.cA nc x.cc] 27)) := (Below.refl _ _).alloc (Nat.le_refl _) _
  have b0 : Below w.heap.size w W := by rw [hWe.out]; exact b1.alloc b1.size _
  have hz : (w.alloc (.cells #[.slice x.oA no x.oc, .slice x.fA nf x.fc, .slice x.cA nc x.cc] 27)).heap.size = w.heap.size + 1 := Array.size_push _
  have BX : Box W w.heap.size 27 #[.slice x.oA no x.oc, .slice x.fA nf x.fc, .slice x.cA nc x.cc] := by rw [hWe.out]; exact (Box.new w _ _).kept ((Fr.refl [] _).alloc _) (by simp)
  have BY : Box W (w.heap.size + 1) 27 #[.slice y.oA no y.oc, .slice y.fA nf y.fc, .slice y.cA nc y.cc] := by rw [hWe.out, ← hz]; exact Box.new _ _ _
  have HX : Hid (∀ w2, Below W.heap.size W w2 → SysM w2 x ∧ SysM w2 y) := Lib.hid (fun w2 b => ⟨(hx.below b0).below b, (hy.below b0).below b⟩)
  have HC : Hid (∀ w2, Below W.heap.size W w2 → (w2.cell? ⟨w.heap.size, 0, none⟩ = some (.slice x.oA no x.oc) ∧ w2.cell? ⟨w.heap.size, 1, none⟩ = some (.slice x.fA nf x.fc) ∧ w2.cell? ⟨w.heap.size, 2, none⟩ = some (.slice x.cA nc x.cc)) ∧ w2.cell? ⟨w.heap.size + 1, 0, none⟩ = some (.slice y.oA no y.oc) ∧ w2.cell? ⟨w.heap.size + 1, 1, none⟩ = some (.slice y.fA nf y.fc) ∧ w2.cell? ⟨w.heap.size + 1, 2, none⟩ = some (.slice y.cA nc y.cc)) := Lib.hid (fun w2 b => by
    have p := BX.kept (Fr.of_below b []) (by simp)
    have q := BY.kept (Fr.of_below b []) (by simp)
    exact ⟨⟨p.cell 0, p.cell 1, p.cell 2⟩, q.cell 0, q.cell 1, q.cell 2⟩)
  have HE : Hid (∀ w2, Below W.heap.size W w2 → Below w.heap.size w w2) := Lib.hid (fun w2 b => b0.trans (b.mono b0.size))
  have R0 := Lib.hid (Below.refl W.heap.size W)
  have KO : Hid (∀ (k : Nat) (h1 : k < x.os.length) (h2 : k < y.os.length) (w2 : World), Below W.heap.size W w2 → Calls Try.prog 65 #[.agg #[.string x.os[k].o.name, .string x.os[k].o.kinds, .slice x.os[k].mA x.os[k].o.marks.length x.os[k].mc], .agg #[.string y.os[k].o.name, .string y.os[k].o.kinds, .slice y.os[k].mA y.os[k].o.marks.length y.os[k].mc]] w2 (BPost true w2)) := Lib.hid (fun k h1 h2 w2 b => by
    have q := map_at MO.o eo h1 h2
    have a1 := (HX.out w2 b).1.ok _ (List.getElem_mem h1)
    have a2 := (HX.out w2 b).2.ok _ (List.getElem_mem h2)
    generalize x.os[k] = p1 at *
    generalize y.os[k] = p2 at *
    obtain ⟨o1, A1, c1⟩ := p1
    obtain ⟨o2, A2, c2⟩ := p2
    dsimp only at q ⊢
    subst q
    exact sameobj_any hm o1 A1 A2 c1 c2 w2 a1 a2)
  have KC : Hid (∀ (k : Nat) (h1 : k < x.cs.length) (h2 : k < y.cs.length) (w2 : World), Below W.heap.size W w2 → Calls Try.prog 66 #[.agg #[.int .i64 x.cs[k].c.op, .string x.cs[k].c.a, .string x.cs[k].c.b, .int .i64 x.cs[k].c.k, .string x.cs[k].c.tag, .slice x.cs[k].aA x.cs[k].c.args.length x.cs[k].ac], .agg #[.int .i64 y.cs[k].c.op, .string y.cs[k].c.a, .string y.cs[k].c.b, .int .i64 y.cs[k].c.k, .string y.cs[k].c.tag, .slice y.cs[k].aA y.cs[k].c.args.length y.cs[k].ac]] w2 (fun e w' => e = .returned (.int .i64 0) ∧ Below w2.heap.size w2 w')) := Lib.hid (fun k h1 h2 w2 b => by
    have q := map_at MC.c ec h1 h2
    have a1 := (HX.out w2 b).1.ck _ (List.getElem_mem h1)
    have a2 := (HX.out w2 b).2.ck _ (List.getElem_mem h2)
    have a3 := hal x.cs[k].c (List.mem_map.2 ⟨_, List.getElem_mem h1, rfl⟩)
    have h := rcompare_any x.cs[k] y.cs[k] w2 a1 a2 a3 (by rw [← q]; exact a3)
    unfold sy.IPost at h
    rw [← q, conC_self] at h
    exact h)
  have HO : Hid (∀ (k : Nat) (h1 : k < x.os.length) (w2 : World), Below W.heap.size W w2 → ∃ h2 : k < y.os.length, (∃ b off, x.oA = some ⟨b, off, none⟩ ∧ b < w2.heap.size ∧ w2.cell? ⟨b, off + k * 3, none⟩ = some (.string x.os[k].o.name) ∧ w2.cell? ⟨b, off + k * 3 + 1, none⟩ = some (.string x.os[k].o.kinds) ∧ w2.cell? ⟨b, off + k * 3 + 2, none⟩ = some (.slice x.os[k].mA x.os[k].o.marks.length x.os[k].mc)) ∧ (∃ b off, y.oA = some ⟨b, off, none⟩ ∧ b < w2.heap.size ∧ w2.cell? ⟨b, off + k * 3, none⟩ = some (.string y.os[k].o.name) ∧ w2.cell? ⟨b, off + k * 3 + 1, none⟩ = some (.string y.os[k].o.kinds) ∧ w2.cell? ⟨b, off + k * 3 + 2, none⟩ = some (.slice y.os[k].mA y.os[k].o.marks.length y.os[k].mc))) := Lib.hid (fun k h1 w2 b => ⟨by omega, tbl_obj (HX.out w2 b).1.o h1, tbl_obj (HX.out w2 b).2.o (by omega)⟩)
  have HF : Hid (∀ (k : Nat) (h1 : k < x.fs.length) (w2 : World), Below W.heap.size W w2 → (∃ b off, x.fA = some ⟨b, off, none⟩ ∧ b < w2.heap.size ∧ w2.cell? ⟨b, off + k * 3, none⟩ = some (.string x.fs[k].name) ∧ w2.cell? ⟨b, off + k * 3 + 1, none⟩ = some (.string x.fs[k].kinds) ∧ w2.cell? ⟨b, off + k * 3 + 2, none⟩ = some (.string x.fs[k].ret)) ∧ (∃ b off, y.fA = some ⟨b, off, none⟩ ∧ b < w2.heap.size ∧ w2.cell? ⟨b, off + k * 3, none⟩ = some (.string x.fs[k].name) ∧ w2.cell? ⟨b, off + k * 3 + 1, none⟩ = some (.string x.fs[k].kinds) ∧ w2.cell? ⟨b, off + k * 3 + 2, none⟩ = some (.string x.fs[k].ret))) := Lib.hid (fun k h1 w2 b => ⟨tbl_fn (HX.out w2 b).1.f h1, tbl_fn (fs := x.fs) (by rw [ef]; exact (HX.out w2 b).2.f) h1⟩)
  have HK : Hid (∀ (k : Nat) (h1 : k < x.cs.length) (w2 : World), Below W.heap.size W w2 → ∃ h2 : k < y.cs.length, (∃ b off, x.cA = some ⟨b, off, none⟩ ∧ b < w2.heap.size ∧ w2.cell? ⟨b, off + k * 6, none⟩ = some (.int .i64 x.cs[k].c.op) ∧ w2.cell? ⟨b, off + k * 6 + 1, none⟩ = some (.string x.cs[k].c.a) ∧ w2.cell? ⟨b, off + k * 6 + 2, none⟩ = some (.string x.cs[k].c.b) ∧ w2.cell? ⟨b, off + k * 6 + 3, none⟩ = some (.int .i64 x.cs[k].c.k) ∧ w2.cell? ⟨b, off + k * 6 + 4, none⟩ = some (.string x.cs[k].c.tag) ∧ w2.cell? ⟨b, off + k * 6 + 5, none⟩ = some (.slice x.cs[k].aA x.cs[k].c.args.length x.cs[k].ac)) ∧ (∃ b off, y.cA = some ⟨b, off, none⟩ ∧ b < w2.heap.size ∧ w2.cell? ⟨b, off + k * 6, none⟩ = some (.int .i64 y.cs[k].c.op) ∧ w2.cell? ⟨b, off + k * 6 + 1, none⟩ = some (.string y.cs[k].c.a) ∧ w2.cell? ⟨b, off + k * 6 + 2, none⟩ = some (.string y.cs[k].c.b) ∧ w2.cell? ⟨b, off + k * 6 + 3, none⟩ = some (.int .i64 y.cs[k].c.k) ∧ w2.cell? ⟨b, off + k * 6 + 4, none⟩ = some (.string y.cs[k].c.tag) ∧ w2.cell? ⟨b, off + k * 6 + 5, none⟩ = some (.slice y.cs[k].aA y.cs[k].c.args.length y.cs[k].ac))) := Lib.hid (fun k h1 w2 b => ⟨by omega, tbl_con (HX.out w2 b).1.c h1, tbl_con (HX.out w2 b).2.c (by omega)⟩)
  obtain ⟨⟨x0, x1, x2⟩, y0, y1, y2⟩ := HC.out W R0.out
  have mo := hx.ol
  have mf := hx.fl
  have mc := hx.cl
  unfold maxLen at mo mf mc
  have HM := Lib.hid hm
  unfold MS.val
  rw [← lo, ← lc, ← ef, ← hno.out, ← hnf.out, ← hnc.out]
  rw [← hno.out] at mo
  rw [← hnf.out] at mf
  rw [← hnc.out] at mc
  clear hx hy e eo ef ec lo lc b1 b0 hz BX BY hm hal HX
  unfold BPost at KO ⊢
  have s0 : (((no : Nat) : Int) != (no : Int)) = false := by simp
  have s1 : (((nf : Nat) : Int) != (nf : Int)) = false := by simp
  have s2 : (((nc : Nat) : Int) != (nc : Int)) = false := by simp
  go_enter Try.func42, Try.ntmps42
  go_upto_region 1 with fail
  rw [← hWe.out]
  clear hWe
  generalize hbx : w.heap.size = bx at *
  replace hbx := Lib.hid hbx
  go_wp2_with fail
  clear x0 x1 x2 y0 y1 y2 s0 s1 s2
  go_loopw [5] (fun i wr => ∃ k : Nat, k ≤ no ∧ i = .int .i64 k ∧ Hid (Below W.heap.size W wr)) (fun i _ => no - (intOf i).toNat)
  case atStart => exact ⟨0, by omega, rfl, R0⟩
  case round =>
    obtain ⟨k, hk, rfl, hb⟩ := hrel
    rename World => wr
    by_cases hkl : k < no
    · have e1 : decide ((k : Int) < (no : Int)) = true := decide_eq_true (by omega)
      obtain ⟨h2, ⟨g1, o1, a1, _, u0, u1, u2⟩, ⟨g2, o2, a2, _, v0, v1, v2⟩⟩ := HO.out k (by rw [← hno.out]; exact hkl) wr hb.out
      have KK := Lib.hid (fun (d : Nat) (os : Array Obj) => Calls.regrown_of (KO.out k (by rw [← hno.out]; exact hkl) h2 (grow (redrawn wr d) os) (hb.out.trans ((below_regrown wr d os).mono hb.out.size))))
      obtain ⟨⟨x0, x1, x2⟩, y0, y1, y2⟩ := HC.out wr hb.out
      rw [a1] at x0
      rw [a2] at y0
      clear x1 x2 y1 y2 a1 a2
      generalize x.os[k]'(by rw [← hno.out]; exact hkl) = p1 at *
      generalize y.os[k] = p2 at *
      have r0 := cell_regrown x0
      have r1 := cell_regrown y0
      have r2 := cell_regrown u0
      have r3 := cell_regrown u1
      have r4 := cell_regrown u2
      have r5 := cell_regrown v0
      have r6 := cell_regrown v1
      have r7 := cell_regrown v2
      go_wp2_with fail
      refine wp_region_quiet_below (by kernel_rfl) (by kernel_rfl) ?_
      repeat (quiet_step (exact KK.out _ _))
      refine wpQuiet_nil ?_
      intro _ hw'
      obtain ⟨⟨dq, osq⟩, hw''⟩ := hw'
      subst hw''
      have hb2 := Lib.hid (hb.out.trans ((below_regrown wr dq osq).mono hb.out.size))
      clear r0 r1 r2 r3 r4 r5 r6 r7 u0 u1 u2 v0 v1 v2 x0 y0 KK
      generalize grow (redrawn wr dq) osq = wz at *
      go_wp2_with fail
      go_roundw
      case rel => exact ⟨k + 1, by omega, by go_num, hb2⟩
      case measure => simp [intOf]; omega
    · obtain rfl : k = no := by omega
      have e1 : decide ((k : Int) < (k : Int)) = false := decide_eq_false (by omega)
      obtain ⟨⟨x0, x1, x2⟩, y0, y1, y2⟩ := HC.out wr hb.out
      go_wp2_with fail
      clear x0 x1 x2 y0 y1 y2
      have R1 := hb
      go_loopw [6] (fun i wr => ∃ k : Nat, k ≤ nf ∧ i = .int .i64 k ∧ Hid (Below W.heap.size W wr)) (fun i _ => nf - (intOf i).toNat)
      case atStart => exact ⟨0, by omega, rfl, R1⟩
      case round =>
        obtain ⟨j, hj, rfl, hb3⟩ := hrel
        clear hb R1
        rename World => ws
        by_cases hjl : j < nf
        · have e2 : decide ((j : Int) < (nf : Int)) = true := decide_eq_true (by omega)
          obtain ⟨⟨g1, o1, a1, _, u0, u1, u2⟩, ⟨g2, o2, a2, _, v0, v1, v2⟩⟩ := HF.out j (by rw [← hnf.out]; exact hjl) ws hb3.out
          obtain ⟨⟨x0, x1, x2⟩, y0, y1, y2⟩ := HC.out ws hb3.out
          rw [a1] at x1
          rw [a2] at y1
          clear x0 x2 y0 y2 a1 a2
          generalize x.fs[j]'(by rw [← hnf.out]; exact hjl) = a at *
          have EQ := HM.out.f a
          have GU := HM.out.gf
          go_wp2_with fail
          go_quiet (fail)
          have hb2 := Lib.hid (below_drewN hb3.out hb3.out.size nq)
          go_wp2_with fail
          go_roundw
          case rel => exact ⟨j + 1, by omega, by go_num, hb2⟩
          case measure => simp [intOf]; omega
        · obtain rfl : j = nf := by omega
          have e2 : decide ((j : Int) < (j : Int)) = false := decide_eq_false (by omega)
          obtain ⟨⟨x0, x1, x2⟩, y0, y1, y2⟩ := HC.out ws hb3.out
          go_wp2_with fail
          clear x0 x1 x2 y0 y1 y2
          have R2 := hb3
          go_loopw [7] (fun i wr => ∃ k : Nat, k ≤ nc ∧ i = .int .i64 k ∧ Hid (Below W.heap.size W wr)) (fun i _ => nc - (intOf i).toNat)
          case atStart => exact ⟨0, by omega, rfl, R2⟩
          case round =>
            obtain ⟨i, hi, rfl, hb⟩ := hrel
            clear hb3 R2
            rename World => wt
            by_cases hil : i < nc
            · have e3 : decide ((i : Int) < (nc : Int)) = true := decide_eq_true (by omega)
              obtain ⟨h2, ⟨g1, o1, a1, _, u0, u1, u2, u3, u4, u5⟩, ⟨g2, o2, a2, _, v0, v1, v2, v3, v4, v5⟩⟩ := HK.out i (by rw [← hnc.out]; exact hil) wt hb.out
              have KK := Lib.hid (fun (d : Nat) (os : Array Obj) => Calls.regrown_of (KC.out i (by rw [← hnc.out]; exact hil) h2 (grow (redrawn wt d) os) (hb.out.trans ((below_regrown wt d os).mono hb.out.size))))
              obtain ⟨⟨x0, x1, x2⟩, y0, y1, y2⟩ := HC.out wt hb.out
              rw [a1] at x2
              rw [a2] at y2
              clear x0 x1 y0 y1 a1 a2
              generalize x.cs[i]'(by rw [← hnc.out]; exact hil) = p1 at *
              generalize y.cs[i] = p2 at *
              have r0 := cell_regrown x2
              have r1 := cell_regrown y2
              have r2 := cell_regrown u0
              have r3 := cell_regrown u1
              have r4 := cell_regrown u2
              have r5 := cell_regrown u3
              have r6 := cell_regrown u4
              have r7 := cell_regrown u5
              have q2 := cell_regrown v0
              have q3 := cell_regrown v1
              have q4 := cell_regrown v2
              have q5 := cell_regrown v3
              have q6 := cell_regrown v4
              have q7 := cell_regrown v5
              go_wp2_with fail
              refine wp_region_quiet_below (by kernel_rfl) (by kernel_rfl) ?_
              repeat (quiet_step (exact KK.out _ _))
              refine wpQuiet_nil ?_
              intro _ hw'
              obtain ⟨⟨dq, osq⟩, hw''⟩ := hw'
              subst hw''
              have hb2 := Lib.hid (hb.out.trans ((below_regrown wt dq osq).mono hb.out.size))
              clear r0 r1 r2 r3 r4 r5 r6 r7 q2 q3 q4 q5 q6 q7 u0 u1 u2 u3 u4 u5 v0 v1 v2 v3 v4 v5 x2 y2 KK
              generalize grow (redrawn wt dq) osq = wz at *
              go_wp2_with fail
              go_roundw
              case rel => exact ⟨i + 1, by omega, by go_num, hb2⟩
              case measure => simp [intOf]; omega
            · obtain rfl : i = nc := by omega
              have e3 : decide ((i : Int) < (i : Int)) = false := decide_eq_false (by omega)
              obtain ⟨⟨x0, x1, x2⟩, y0, y1, y2⟩ := HC.out wt hb.out
              have E := Lib.hid (HE.out wt hb.out)
              go_wp2_with fail
              go_ret
              exact ⟨rfl, by rw [hbx.out]; exact E.out⟩
end Go.Proofs.Ytdmmkjijgoiecaa.re

/-
  record: the reference's Same of two summaries that are the same; how long lists are that were read.
-/
namespace Go.Proofs.Ytdmmkjijgoiecaa.re
open Go.RowKit Go.Sort Go.Shelf Go.Proofs.Ytdmmkjijgoiecaa.mem Go.Proofs.Ytdmmkjijgoiecaa.sy Go.Proofs.Ytdmmkjijgoiecaa.vr

theorem same_txt (w : World) (A B : Option Addr) (c d : Nat) (l : List ByteArray) (hA : Rd w A (l.map Value.string)) (hB : Rd w B (l.map Value.string)) (hll : l.length ≤ 10000000) :
    Calls Try.prog 13 #[.slice A l.length c, .slice B l.length d] w (BPost true w) := by
  have k := same_big w A B c d (l.map tx) (by rw [map_tx]; exact hA) (by rw [map_tx]; exact hB) (by rw [List.length_map]; exact hll)
  rw [List.length_map] at k
  exact k

/-- within what Same reads -/
structure SuL (s : SU) : Prop where
  g : s.gives.length ≤ 10000000
  w : s.wants.length ≤ 10000000
  k : s.keeps.length ≤ 10000000
  a : ∀ c ∈ s.sys.cons, c.args.length ≤ 8796093022208

set_option maxRecDepth 100000 in
set_option maxHeartbeats 4000000 in
theorem same24_any (u v : MU) (w : World) (hu : SumM w u) (hv : SumM w v) (e : u.su = v.su) (hl : SuL u.su) :
    Calls Try.prog 18 #[u.val, v.val] w (BPost true w) := by
  obtain ⟨un, ugA, ugc, ug, uwA, uwc, uw, ukA, ukc, uk, us⟩ := u
  obtain ⟨vn, vgA, vgc, vg, vwA, vwc, vw, vkA, vkc, vk, vs⟩ := v
  have e1 : un = vn := congrArg SU.name e
  have e2 : ug = vg := congrArg SU.gives e
  have e3 : uw = vw := congrArg SU.wants e
  have e4 : uk = vk := congrArg SU.keeps e
  have e5 : us.sys = vs.sys := congrArg SU.sys e
  subst e1 e2 e3 e4
  have lo : us.os.length = vs.os.length := by have := congrArg (fun s : SS => s.objs.length) e5; simpa [MS.sys] using this
  have lf : us.fs.length = vs.fs.length := by have := congrArg (fun s : SS => s.fns.length) e5; simpa [MS.sys] using this
  have lc : us.cs.length = vs.cs.length := by have := congrArg (fun s : SS => s.cons.length) e5; simpa [MS.sys] using this
  obtain ⟨W, hWe⟩ : ∃ W, Hid (W = (w.alloc (.cells #[.string un, .slice ugA ug.length ugc, .slice uwA uw.length uwc, .slice ukA uk.length ukc, .slice us.oA us.os.length us.oc, .slice us.fA us.fs.length us.fc, .slice us.cA us.cs.length us.cc] 29)).alloc (.cells #[.string un, .slice vgA ug.length vgc, .slice vwA uw.length vwc, .slice vkA uk.length vkc, .slice vs.oA vs.os.length vs.oc, .slice vs.fA vs.fs.length vs.fc, .slice vs.cA vs.cs.length vs.cc] 29)) := ⟨_, Lib.hid rfl⟩
  have b1 : Below w.heap.size w (w.alloc (.cells #[.string un, .slice ugA ug.length ugc, .slice uwA uw.length uwc, .slice ukA uk.length ukc, .slice us.oA us.os.length us.oc, .slice us.fA us.fs.length us.fc, .slice us.cA us.cs.length us.cc] 29)) := (Below.refl _ _).alloc (Nat.le_refl _) _
  have b0 : Below w.heap.size w W := by rw [hWe.out]; exact b1.alloc b1.size _
  have hz : (w.alloc (.cells #[.string un, .slice ugA ug.length ugc, .slice uwA uw.length uwc, .slice ukA uk.length ukc, .slice us.oA us.os.length us.oc, .slice us.fA us.fs.length us.fc, .slice us.cA us.cs.length us.cc] 29)).heap.size = w.heap.size + 1 := Array.size_push _
  have BX : Box W w.heap.size 29 #[.string un, .slice ugA ug.length ugc, .slice uwA uw.length uwc, .slice ukA uk.length ukc, .slice us.oA us.os.length us.oc, .slice us.fA us.fs.length us.fc, .slice us.cA us.cs.length us.cc] := by rw [hWe.out]; exact (Box.new w _ _).kept ((Fr.refl [] _).alloc _) (by simp)
  have BY : Box W (w.heap.size + 1) 29 #[.string un, .slice vgA ug.length vgc, .slice vwA uw.length vwc, .slice vkA uk.length vkc, .slice vs.oA vs.os.length vs.oc, .slice vs.fA vs.fs.length vs.fc, .slice vs.cA vs.cs.length vs.cc] := by rw [hWe.out, ← hz]; exact Box.new _ _ _
  have HC : Hid (∀ w2, Below W.heap.size W w2 → (w2.cell? ⟨w.heap.size, 0, none⟩ = some (.string un) ∧ w2.cell? ⟨w.heap.size, 1, none⟩ = some (.slice ugA ug.length ugc) ∧ w2.cell? ⟨w.heap.size, 2, none⟩ = some (.slice uwA uw.length uwc) ∧ w2.cell? ⟨w.heap.size, 3, none⟩ = some (.slice ukA uk.length ukc) ∧ w2.cell? ⟨w.heap.size, 4, none⟩ = some (.slice us.oA us.os.length us.oc) ∧ w2.cell? ⟨w.heap.size, 5, none⟩ = some (.slice us.fA us.fs.length us.fc) ∧ w2.cell? ⟨w.heap.size, 6, none⟩ = some (.slice us.cA us.cs.length us.cc)) ∧ w2.cell? ⟨w.heap.size + 1, 0, none⟩ = some (.string un) ∧ w2.cell? ⟨w.heap.size + 1, 1, none⟩ = some (.slice vgA ug.length vgc) ∧ w2.cell? ⟨w.heap.size + 1, 2, none⟩ = some (.slice vwA uw.length vwc) ∧ w2.cell? ⟨w.heap.size + 1, 3, none⟩ = some (.slice vkA uk.length vkc) ∧ w2.cell? ⟨w.heap.size + 1, 4, none⟩ = some (.slice vs.oA vs.os.length vs.oc) ∧ w2.cell? ⟨w.heap.size + 1, 5, none⟩ = some (.slice vs.fA vs.fs.length vs.fc) ∧ w2.cell? ⟨w.heap.size + 1, 6, none⟩ = some (.slice vs.cA vs.cs.length vs.cc)) := Lib.hid (fun w2 b => by
    have p := BX.kept (Fr.of_below b []) (by simp)
    have q := BY.kept (Fr.of_below b []) (by simp)
    exact ⟨⟨p.cell 0, p.cell 1, p.cell 2, p.cell 3, p.cell 4, p.cell 5, p.cell 6⟩, q.cell 0, q.cell 1, q.cell 2, q.cell 3, q.cell 4, q.cell 5, q.cell 6⟩)
  have HE : Hid (∀ w2, Below W.heap.size W w2 → Below w.heap.size w w2) := Lib.hid (fun w2 b => b0.trans (b.mono b0.size))
  have R0 := Lib.hid (Below.refl W.heap.size W)
  have HX : ∀ w2, Below W.heap.size W w2 → SumM w2 ⟨un, ugA, ugc, ug, uwA, uwc, uw, ukA, ukc, uk, us⟩ ∧ SumM w2 ⟨un, vgA, vgc, ug, vwA, vwc, uw, vkA, vkc, uk, vs⟩ := fun w2 b => ⟨(hu.below b0).below b, (hv.below b0).below b⟩
  have K1 := Lib.hid (fun (w2 : World) (b : Below W.heap.size W w2) => same_txt w2 ugA vgA ugc vgc ug (HX w2 b).1.gr (HX w2 b).2.gr hl.g)
  have K2 := Lib.hid (fun (w2 : World) (b : Below W.heap.size W w2) => same_txt w2 uwA vwA uwc vwc uw (HX w2 b).1.wr (HX w2 b).2.wr hl.w)
  have K3 := Lib.hid (fun (w2 : World) (b : Below W.heap.size W w2) => same_txt w2 ukA vkA ukc vkc uk (HX w2 b).1.kr (HX w2 b).2.kr hl.k)
  have K4 := Lib.hid (fun (w2 : World) (b : Below W.heap.size W w2) => same15_any heldR us vs w2 (HX w2 b).1.sr (HX w2 b).2.sr e5 hl.a)
  obtain ⟨⟨x0, x1, x2, x3, x4, x5, x6⟩, y0, y1, y2, y3, y4, y5, y6⟩ := HC.out W R0.out
  unfold MS.val at K4
  unfold MU.val MU.row
  dsimp only
  unfold BPost at K1 K2 K3 K4 ⊢
  clear hu hv e e5 lo lf lc b1 b0 hz BX BY HX hl
  have s0 : (un.data == un.data) = true := by simp
  go_enter Try.func18, Try.ntmps18
  go_upto_region 1 with fail
  rw [← hWe.out]
  clear hWe
  generalize hbx : w.heap.size = bx at *
  replace hbx := Lib.hid hbx
  have KA := Lib.hid (K1.out W R0.out)
  go_wp2_with fail
  refine KA.out.mono ?_
  rintro e w2 ⟨rfl, b2⟩
  have B2 := Lib.hid (R0.out.trans b2)
  clear b2 KA x0 x1 x2 x3 x4 x5 x6 y0 y1 y2 y3 y4 y5 y6
  obtain ⟨⟨x0, x1, x2, x3, x4, x5, x6⟩, y0, y1, y2, y3, y4, y5, y6⟩ := HC.out w2 B2.out
  have KA := Lib.hid (K2.out w2 B2.out)
  go_wp2_with fail
  refine KA.out.mono ?_
  rintro e w3 ⟨rfl, b3⟩
  have B3 := Lib.hid (B2.out.trans (b3.mono B2.out.size))
  clear b3 KA x0 x1 x2 x3 x4 x5 x6 y0 y1 y2 y3 y4 y5 y6 B2
  obtain ⟨⟨x0, x1, x2, x3, x4, x5, x6⟩, y0, y1, y2, y3, y4, y5, y6⟩ := HC.out w3 B3.out
  have KA := Lib.hid (K3.out w3 B3.out)
  go_wp2_with fail
  refine KA.out.mono ?_
  rintro e w4 ⟨rfl, b4⟩
  have B4 := Lib.hid (B3.out.trans (b4.mono B3.out.size))
  clear b4 KA x0 x1 x2 x3 x4 x5 x6 y0 y1 y2 y3 y4 y5 y6 B3
  obtain ⟨⟨x0, x1, x2, x3, x4, x5, x6⟩, y0, y1, y2, y3, y4, y5, y6⟩ := HC.out w4 B4.out
  have KA := Lib.hid (K4.out w4 B4.out)
  go_wp2_with fail
  refine KA.out.mono ?_
  rintro e w5 ⟨rfl, b5⟩
  have E := Lib.hid (HE.out w5 (B4.out.trans (b5.mono B4.out.size)))
  clear b5 KA
  go_wp2_with fail
  go_ret
  exact ⟨rfl, by rw [hbx.out]; exact E.out⟩

theorem goL_len {α : Type} (one : Nat → Int → α × Nat × Int) : ∀ (k q : Nat) (e : Int), (goL one k q e).1.length ≤ k
  | 0, q, e => by simp [goL]
  | k + 1, q, e => by
    unfold goL
    split
    · simp
    · have := goL_len one k (one q e).2.1 (one q e).2.2
      rw [List.length_cons]
      omega
theorem listL_len {α : Type} (one : Nat → Int → α × Nat × Int) (s : ByteArray) (p : Nat) (er : Int) (he : er ≠ 6) : (listL one s p er).1.length ≤ 6000 := by
  rw [list_many one s p er he]
  exact Nat.le_trans (goL_len _ _ _ _) (nM_le s p er)
theorem goL_all {α : Type} {s : ByteArray} {one : Nat → Int → α × Nat × Int} {P : α → Prop} (h : Okp s one) (hP : ∀ q e, q ≤ s.size → e ≠ 6 → P (one q e).1) : ∀ (k q : Nat) (e : Int), q ≤ s.size → e ≠ 6 → ∀ x ∈ (goL one k q e).1, P x
  | 0, q, e, _, _, x, hx => by simp [goL] at hx
  | k + 1, q, e, hq, he, x, hx => by
    unfold goL at hx
    split at hx
    · simp at hx
    · rcases List.mem_cons.1 hx with rfl | hx
      · exact hP q e hq he
      · exact goL_all h hP k _ _ (h q e hq he).1 (h q e hq he).2 x hx
theorem args_len (m : List (List UInt8)) (s : ByteArray) (q : Nat) (e : Int) (hq : q ≤ s.size) (he : e ≠ 6) : (oneC m s q e).1.args.length ≤ 6000 :=
  listL_len (oneT m s) s _ _ (tN_ok m s _ _ (nE_ok s _ _ (tN_ok m s _ _ (tN_ok m s _ _ (nE_ok s q e he)))))
theorem rdS_len (m : List (List UInt8)) (s : ByteArray) : SuL (rdS m s) := by
  unfold rdS
  split
  · refine ⟨Nat.le_trans (listL_len (oneT m s) s _ _ (in_N m s).2) (by omega), Nat.le_trans (listL_len (oneT m s) s _ _ (in_G m s).2) (by omega), Nat.le_trans (listL_len (oneT m s) s _ _ (in_W m s).2) (by omega), fun c hc => ?_⟩
    have := goL_all (P := fun c => c.args.length ≤ 6000) (ok_C m s) (fun q e hq he => args_len m s q e hq he) _ _ _ (nP_in s _ _ (in_F m s).1) (eL_ok s _ _ (in_F m s).2) c hc
    exact Nat.le_trans this (by omega)
  · exact ⟨by simp [su0], by simp [su0], by simp [su0], fun c hc => by simp [su0] at hc⟩
end Go.Proofs.Ytdmmkjijgoiecaa.re
