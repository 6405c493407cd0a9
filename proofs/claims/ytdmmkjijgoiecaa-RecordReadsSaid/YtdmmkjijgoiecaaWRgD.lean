import Derived.Test.YtdmmkjijgoiecaaW6
import Derived.Test.YtdmmkjijgoiecaaWReR
import Derived.Deep.CutBlock
import Derived.Deep.RegionLaw
import Derived.Deep.RegionWith
set_option linter.all false
/-
  record: the reference's Read.
-/
namespace Go.Proofs.Ytdmmkjijgoiecaa.re
open Go.RowKit Go.Shelf Go.Proofs.Ytdmmkjijgoiecaa.mem Go.Proofs.Ytdmmkjijgoiecaa.sy Go.Proofs.Ytdmmkjijgoiecaa.vr Go.Proofs.Ytdmmkjijgoiecaa.po

theorem step_rowq {P : Program} {sz : Nat} {w : World} {ops : Array Oper} {o : Oper} {a : Act} {K : Act → World → Prop} {Q : Exit → Act → World → Prop} {E : Prop} (hgd : o.guard = none) (s x : Operand) (t : TypeId)
    (ho : o.op = .call { callee := .builtin .append, args := #[s, x], argTypes := #[t, t] }) {e : TypeId} {A : Option Addr} {cap n bytes : Nat} {cs us : List Value} {i : TypeInfo} {z : Value} (h : Sg sz w e A cap n cs) (ht : P.underlying t = some (.slice e)) (hi : P.info? e = some i) (hz : i.zero = some z) (hs : i.size = sz) (hb : i.bytes = bytes) (hzs : z.cells.size = sz)
    {ad : Addr} (hes : a.eval s = .slice A n cap) (hex : a.eval x = .slice (some ad) 1 1) (hl : us.length = sz) (hu : ∀ j v, us[j]? = some v → w.cell? (ad.add j) = some v) (h1 : ∀ u ∈ us, u.oneCell' = true) (h63 : n + 1 ≤ 9223372036854775807) (hby : (n + 1) * bytes ≤ 140737488355328)
    (hK : ∀ A' cap' w', Sg sz w' e A' cap' (n + 1) (cs ++ us) → Fr (blk A) w w' → (blk A' = blk A ∨ blk A' = [w.heap.size]) → K (a.put o.dst (.slice A' (n + 1) cap')) w') :
    if Region.wanted o (yielded ops a.tmps) = true then Oper.wp P o a w K Q else E := by
  have hw : Region.wanted o (yielded ops a.tmps) = true := by simp [Region.wanted, hgd]
  rw [if_pos hw]
  obtain ⟨A', cap', w', hr, h2, h3, h4⟩ := h.push (ty := o.type) ht hi hz hs hb hzs hl hu h1 h63 hby
  unfold Oper.wp execOp
  simp only [ho, resolve, invoke, builtin, Sem.run_bind, Sem.run_pure, Result.andThen_ok, List.map_toArray, List.map_cons, List.map_nil, hes, hex, hr]
  exact hK _ _ _ h2 h3 h4

theorem LL.tl {e : TypeId} {lo : Nat} {A : Option Addr} {cap : Nat} {xs : List ByteArray} {w : World} (h : LL ETx 1 e lo A cap xs w) : TL1 lo A cap xs w :=
  ⟨tbl_rd (sg_tbl (f := fun s : ByteArray => [Value.string s]) (fun _ => rfl) (by decide) h.sg), h.nw⟩

theorem LS2.ll {β : Type} {E : El β} {sz : Nat} {F : List Nat} {D : Nat → Int → World → Prop} {p : Nat} {er : Int} {W w : World} {e : TypeId} {A : Option Addr} {cap lo : Nat} {xs : List β} (h : LS2 E sz F D p er W e A cap xs w) (hl : lo ≤ W.heap.size) : LL E sz e lo A cap xs w :=
  ⟨h.sg, fun x hx => Nat.le_trans hl (h.nw x hx), fun b hb => ⟨(h.ok b hb).1, fun x hx => Nat.le_trans hl ((h.ok b hb).2 x hx).1⟩⟩

set_option maxRecDepth 100000 in
set_option maxHeartbeats 8000000 in
theorem qread_any {s : ByteArray} {pA : Option Addr} {pc : Nat} {m : List (List UInt8)} {w : World} (hp : Rd w pA (m.map encStr)) (hm : m.length ≤ 1000000) (hml : ∀ x ∈ m, x.length ≤ maxLen) (hs : s.size ≤ maxLen) :
    Calls Try.prog 17 #[.slice pA m.length pc, .string s] w (RDP (rdS m s) (rdE m s) w) := by
  obtain ⟨W1, hW1⟩ : ∃ W1, Hid (W1 = w.alloc (.cells #[.string ⟨#[]⟩, .slice none 0 0, .slice none 0 0, .slice none 0 0, .slice none 0 0, .slice none 0 0, .slice none 0 0] 29)) := ⟨_, Lib.hid rfl⟩
  obtain ⟨r, hr⟩ : ∃ r, Hid (r = W1.heap.size) := ⟨_, Lib.hid rfl⟩
  obtain ⟨x, hx⟩ : ∃ x, Hid (x = W1.heap.size + 1) := ⟨_, Lib.hid rfl⟩
  obtain ⟨sb, hsb⟩ : ∃ sb, Hid (sb = W1.heap.size + 1 + 1) := ⟨_, Lib.hid rfl⟩
  obtain ⟨W2, hW2⟩ : ∃ W2, Hid (W2 = W1.alloc (.cells #[.string s, .int .i64 0, .int .i64 0] 91)) := ⟨_, Lib.hid rfl⟩
  obtain ⟨W3, hW3⟩ : ∃ W3, Hid (W3 = W2.alloc (.cells #[.slice pA m.length pc, .pointer (some ⟨r, 0, none⟩)] 93)) := ⟨_, Lib.hid rfl⟩
  obtain ⟨W, hWe⟩ : ∃ W, Hid (W = W3.alloc (.cells #[.string ⟨#[]⟩, .slice none 0 0, .slice none 0 0, .slice none 0 0, .slice none 0 0, .slice none 0 0, .slice none 0 0] 29)) := ⟨_, Lib.hid rfl⟩
  have z1 : W1.heap.size = w.heap.size + 1 := by rw [hW1.out]; exact Array.size_push _
  have z2 : W2.heap.size = w.heap.size + 2 := by rw [hW2.out]; show (W1.heap.push _).size = _; rw [Array.size_push, z1]
  have z3 : W3.heap.size = w.heap.size + 3 := by rw [hW3.out]; show (W2.heap.push _).size = _; rw [Array.size_push, z2]
  have z4 : W.heap.size = w.heap.size + 4 := by rw [hWe.out]; show (W3.heap.push _).size = _; rw [Array.size_push, z3]
  have f01 : Fr [] w W1 := by rw [hW1.out]; exact (Fr.refl [] w).alloc _
  have f12 : Fr [] W1 W2 := by rw [hW2.out]; exact (Fr.refl [] W1).alloc _
  have f23 : Fr [] W2 W3 := by rw [hW3.out]; exact (Fr.refl [] W2).alloc _
  have f34 : Fr [] W3 W := by rw [hWe.out]; exact (Fr.refl [] W3).alloc _
  have be3 : Below w.heap.size w W3 := by
    have f1 : Fr [] w W2 := f01.trans f12 (fun x hx => Or.inl hx) (fun x hx => Or.inl hx)
    have f : Fr [] w W3 := f1.trans f23 (fun x hx => Or.inl hx) (fun x hx => Or.inl hx)
    exact f.below (by simp) (Nat.le_refl _)
  have hD3 : QD w x r pA pc m s 0 0 W3 := by
    refine ⟨⟨?_⟩, ?_, be3, by rw [hr.out]; omega, by rw [hr.out, hx.out]; omega⟩
    · have b : Box W2 r 91 #[.string s, .int .i64 0, .int .i64 0] := by rw [hW2.out, hr.out]; exact Box.new _ _ _
      exact b.kept f23 (by simp)
    · have e : x = W2.heap.size := by rw [hx.out, z2, z1]
      rw [hW3.out, e]; exact Box.new _ _ _
  have B1 : Box W3 w.heap.size 29 #[.string ⟨#[]⟩, .slice none 0 0, .slice none 0 0, .slice none 0 0, .slice none 0 0, .slice none 0 0, .slice none 0 0] := by
    have b : Box W1 w.heap.size 29 #[.string ⟨#[]⟩, .slice none 0 0, .slice none 0 0, .slice none 0 0, .slice none 0 0, .slice none 0 0, .slice none 0 0] := by rw [hW1.out]; exact Box.new _ _ _
    exact (b.kept f12 (by simp)).kept f23 (by simp)
  have HR := Lib.hid (rdr_qd w x r pA pc m s)
  have S0 : Hid (SW2 (QD w x r pA pc m s) [r] 0 0 W3 29 sb #[.string ⟨#[]⟩, .slice none 0 0, .slice none 0 0, .slice none 0 0, .slice none 0 0, .slice none 0 0, .slice none 0 0] W) := Lib.hid (by
    have h := SW2.new (rdr_qd w x r pA pc m s) hD3 (Fr.refl [r] W3) (by have := hr.out; simp; omega) 29 #[.string ⟨#[]⟩, .slice none 0 0, .slice none 0 0, .slice none 0 0, .slice none 0 0, .slice none 0 0, .slice none 0 0]
    have e : W3.heap.size = sb := by rw [hsb.out, z3, z1]
    rw [← hWe.out, e] at h
    exact h)
  have HB : Hid (∀ w2, Fr [r] W3 w2 → Box w2 w.heap.size 29 #[.string ⟨#[]⟩, .slice none 0 0, .slice none 0 0, .slice none 0 0, .slice none 0 0, .slice none 0 0, .slice none 0 0]) := Lib.hid (fun w2 f => B1.kept f (by have := hr.out; simp; omega))
  have hLow : Hid (x + 1 ≤ W3.heap.size ∧ r < sb ∧ x < sb ∧ w.heap.size < r ∧ sb = W3.heap.size ∧ w.heap.size < sb) := Lib.hid (by
    have a1 := hr.out
    have a2 := hx.out
    have a3 := hsb.out
    omega)
  have HDc : Hid (∀ q e w2, QD w x r pA pc m s q e w2 → w2.cell? ⟨x, 0, none⟩ = some (.slice pA m.length pc) ∧ w2.cell? ⟨x, 1, none⟩ = some (.pointer (some ⟨r, 0, none⟩)) ∧ w2.cell? ⟨r, 2, none⟩ = some (.int .i64 e)) := Lib.hid (fun q e w2 d => d.cells)
  have HDb : Hid (∀ q e w2, QD w x r pA pc m s q e w2 → Below w.heap.size w w2) := Lib.hid (fun q e w2 d => d.be)
  have HDd : Hid (∀ q e w2, QD w x r pA pc m s q e w2 → QD w x r pA pc m s q e w2.drew) := Lib.hid (fun q e w2 d => d.kept (G := []) ((Fr.refl [] w2).drew) (by simp))
  have HT : Hid (∀ (w2 : World) (q : Nat) (e : Int), q ≤ s.size → e ≠ 6 → QD w x r pA pc m s q e w2 → Calls Try.prog 36 #[.pointer (some ⟨x, 0, none⟩)] w2 (QPP (QD w x r pA pc m s) r (.string (tT m s q e)) (nP s q e) (tN m s q e) w2)) := Lib.hid (fun w2 q e hq he d => qtext_any hp hm hs hq he d)
  have HN : Hid (∀ (w2 : World) (q : Nat) (e : Int), q ≤ s.size → QD w x r pA pc m s q e w2 → Calls Try.prog 40 #[.pointer (some ⟨r, 0, none⟩)] w2 (QPP (QD w x r pA pc m s) r (.int .i64 (nV s q e)) (nP s q e) (nE s q e) w2)) := Lib.hid (fun w2 q e hq d => (rr_number w2 r s q e d.rr hs hq).mono (fun e w' k => ⟨k.1, d.of k.2.2 k.2.1, k.2.2⟩))
  have HM : Hid (∀ (w2 : World) (q : Nat) (e : Int), q ≤ s.size → QD w x r pA pc m s q e w2 → Calls Try.prog 38 #[.pointer (some ⟨x, 0, none⟩)] w2 (QPP (QD w x r pA pc m s) r (.int .i64 (nM s q e : Int)) (nP s q e) (eL s q e) w2)) := Lib.hid (fun w2 q e hq d => qmany_any hs hq d)
  have HX : Hid (∀ (w2 : World) (q : Nat) (e : Int), q ≤ s.size → e ≠ 6 → QD w x r pA pc m s q e w2 → Calls Try.prog 37 #[.pointer (some ⟨x, 0, none⟩)] w2 (LP2 ETx 1 (fun s : ByteArray => s) r (QD w x r pA pc m s) 9 (listL (oneT m s) s q e).1 (listL (oneT m s) s q e).2.1 (listL (oneT m s) s q e).2.2 w2)) := Lib.hid (fun w2 q e hq he d => qtexts_any hp hm hs hq he d)
  have HO : Hid (∀ (w2 : World) (q : Nat) (e : Int), q ≤ s.size → e ≠ 6 → QD w x r pA pc m s q e w2 → Calls Try.prog 39 #[.pointer (some ⟨x, 0, none⟩)] w2 (OP EOb MO.o r (QD w x r pA pc m s) (oneO m s q e).1 (oneO m s q e).2.1 (oneO m s q e).2.2 w2)) := Lib.hid (fun w2 q e hq he d => qobj_op hp hm hml hs hq he d)
  have HDn : Hid (∀ (w2 : World) (q : Nat) (e : Int), QD w x r pA pc m s q e w2 → Calls Try.prog 41 #[.pointer (some ⟨r, 0, none⟩)] w2 (QPP (QD w x r pA pc m s) r (.tuple #[.int .i64 (q : Int), .int .i64 (dE s q e)]) q e w2)) := Lib.hid (fun w2 q e d => (rr_done w2 r s q e d.rr).mono (fun e w' k => ⟨k.1, d.of k.2.2 k.2.1, k.2.2⟩))
  have HTS : Hid (∀ q e, (tT m s q e).size ≤ maxLen) := Lib.hid (fun q e => tT_size m s q e hml)
  have HLS : Hid (∀ (q : Nat) (e : Int), ∀ y ∈ (listL (oneT m s) s q e).1, y.size ≤ maxLen) := Lib.hid (fun q e => goT_size m s hml _ _ _)
  have okO := Lib.hid (ok_O m s)
  have okF := Lib.hid (ok_F m s)
  have okC := Lib.hid (ok_C m s)
  unfold Okp at okO okF okC
  have hQ : Hid (∀ p e, p ≤ s.size → nP s p e ≤ s.size) := Lib.hid (fun p e hp => nP_in s p e hp)
  have hNE : Hid (∀ p e, e ≠ 6 → nE s p e ≠ 6) := Lib.hid (fun p e he => nE_ok s p e he)
  have hTE : Hid (∀ p e, e ≠ 6 → tN m s p e ≠ 6) := Lib.hid (fun p e he => tN_ok m s p e he)
  have K1 := Lib.hid (HT.out W 0 0 (Nat.zero_le _) (by decide) S0.out.pd)
  have HK0 : Hid (∀ w2, QD w x r pA pc m s (nP s 0 0) (tN m s 0 0) w2 → Calls Try.prog 37 #[.pointer (some ⟨x, 0, none⟩)] w2 (LP2 ETx 1 (fun s : ByteArray => s) r (QD w x r pA pc m s) 9 (rdG m s).1 (rdG m s).2.1 (rdG m s).2.2 w2)) := Lib.hid (fun w2 d => HX.out w2 _ _ (in_N m s).1 (in_N m s).2 d)
  have HK1 : Hid (∀ w2, QD w x r pA pc m s (rdG m s).2.1 (rdG m s).2.2 w2 → Calls Try.prog 37 #[.pointer (some ⟨x, 0, none⟩)] w2 (LP2 ETx 1 (fun s : ByteArray => s) r (QD w x r pA pc m s) 9 (rdW m s).1 (rdW m s).2.1 (rdW m s).2.2 w2)) := Lib.hid (fun w2 d => HX.out w2 _ _ (in_G m s).1 (in_G m s).2 d)
  have HK2 : Hid (∀ w2, QD w x r pA pc m s (rdW m s).2.1 (rdW m s).2.2 w2 → Calls Try.prog 37 #[.pointer (some ⟨x, 0, none⟩)] w2 (LP2 ETx 1 (fun s : ByteArray => s) r (QD w x r pA pc m s) 9 (rdK m s).1 (rdK m s).2.1 (rdK m s).2.2 w2)) := Lib.hid (fun w2 d => HX.out w2 _ _ (in_W m s).1 (in_W m s).2 d)
  have HMo := Lib.hid (fun w2 d => HM.out w2 (rdK m s).2.1 (rdK m s).2.2 (in_K m s).1 d)
  have HMf := Lib.hid (fun w2 d => HM.out w2 (rdO m s).2.1 (rdO m s).2.2 (in_O m s).1 d)
  have HMc := Lib.hid (fun w2 d => HM.out w2 (rdF m s).2.1 (rdF m s).2.2 (in_F m s).1 d)
  have qO := Lib.hid (nP_in s (rdK m s).2.1 (rdK m s).2.2 (in_K m s).1)
  have qF := Lib.hid (nP_in s (rdO m s).2.1 (rdO m s).2.2 (in_O m s).1)
  have qC := Lib.hid (nP_in s (rdF m s).2.1 (rdF m s).2.2 (in_F m s).1)
  have EO := Lib.hid (eL_ok s (rdK m s).2.1 (rdK m s).2.2 (in_K m s).2)
  have EF := Lib.hid (eL_ok s (rdO m s).2.1 (rdO m s).2.2 (in_O m s).2)
  have EC := Lib.hid (eL_ok s (rdF m s).2.1 (rdF m s).2.2 (in_F m s).2)
  have nO6 := nM_le s (rdK m s).2.1 (rdK m s).2.2
  have nF6 := nM_le s (rdO m s).2.1 (rdO m s).2.2
  have nC6 := nM_le s (rdF m s).2.1 (rdF m s).2.2
  have hO : Hid (rdO m s = goL (oneO m s) (nM s (rdK m s).2.1 (rdK m s).2.2) (nP s (rdK m s).2.1 (rdK m s).2.2) (eL s (rdK m s).2.1 (rdK m s).2.2)) := Lib.hid (list_many _ s _ _ (in_K m s).2)
  have hF : Hid (rdF m s = goL (oneF m s) (nM s (rdO m s).2.1 (rdO m s).2.2) (nP s (rdO m s).2.1 (rdO m s).2.2) (eL s (rdO m s).2.1 (rdO m s).2.2)) := Lib.hid (list_many _ s _ _ (in_O m s).2)
  have hC : Hid (rdC m s = goL (oneC m s) (nM s (rdF m s).2.1 (rdF m s).2.2) (nP s (rdF m s).2.1 (rdF m s).2.2) (eL s (rdF m s).2.1 (rdF m s).2.2)) := Lib.hid (list_many _ s _ _ (in_F m s).2)
  have hSU : Hid (rdE m s = 0 → rdS m s = ⟨tT m s 0 0, (rdG m s).1, (rdW m s).1, (rdK m s).1, ⟨(rdO m s).1, (rdF m s).1, (rdC m s).1⟩⟩) := Lib.hid (fun h => by unfold rdS; rw [if_pos h]; rfl)
  have hSU0 : Hid (rdE m s ≠ 0 → rdS m s = su0) := Lib.hid (fun h => by unfold rdS; rw [if_neg h])
  have hEE : Hid (dE s (rdC m s).2.1 (rdC m s).2.2 = rdE m s) := Lib.hid rfl
  have hFe : Hid (∀ q e, oneF m s q e = (⟨tT m s q e, tT m s (nP s q e) (tN m s q e), tT m s (nP s (nP s q e) (tN m s q e)) (tN m s (nP s q e) (tN m s q e))⟩, nP s (nP s (nP s q e) (tN m s q e)) (tN m s (nP s q e) (tN m s q e)), tN m s (nP s (nP s q e) (tN m s q e)) (tN m s (nP s q e) (tN m s q e)))) := Lib.hid (fun q e => rfl)
  have HC6 : Hid (∀ q e, q ≤ s.size → e ≠ 6 → ∀ w2, QD w x r pA pc m s (nP s (nP s (nP s (nP s (nP s q e) (nE s q e)) (tN m s (nP s q e) (nE s q e))) (tN m s (nP s (nP s q e) (nE s q e)) (tN m s (nP s q e) (nE s q e)))) (nE s (nP s (nP s (nP s q e) (nE s q e)) (tN m s (nP s q e) (nE s q e))) (tN m s (nP s (nP s q e) (nE s q e)) (tN m s (nP s q e) (nE s q e))))) (tN m s (nP s (nP s (nP s (nP s q e) (nE s q e)) (tN m s (nP s q e) (nE s q e))) (tN m s (nP s (nP s q e) (nE s q e)) (tN m s (nP s q e) (nE s q e)))) (nE s (nP s (nP s (nP s q e) (nE s q e)) (tN m s (nP s q e) (nE s q e))) (tN m s (nP s (nP s q e) (nE s q e)) (tN m s (nP s q e) (nE s q e))))) w2 → Calls Try.prog 37 #[.pointer (some ⟨x, 0, none⟩)] w2 (LP2 ETx 1 (fun s : ByteArray => s) r (QD w x r pA pc m s) 9 (oneC m s q e).1.args (oneC m s q e).2.1 (oneC m s q e).2.2 w2)) := Lib.hid (fun q e hq he w2 d => HX.out w2 _ _ (nP_in s _ _ (nP_in s _ _ (nP_in s _ _ (nP_in s _ _ (nP_in s q e hq))))) (tN_ok m s _ _ (nE_ok s _ _ (tN_ok m s _ _ (tN_ok m s _ _ (nE_ok s q e he))))) d)
  have HCS : Hid (∀ (q : Nat) (e : Int), ∀ y ∈ (oneC m s q e).1.args, y.size ≤ maxLen) := Lib.hid (fun q e => goT_size m s hml _ _ _)
  have hCe : Hid (∀ q e, oneC m s q e = (⟨(nV s q e : Nat), tT m s (nP s q e) (nE s q e), tT m s (nP s (nP s q e) (nE s q e)) (tN m s (nP s q e) (nE s q e)), (nV s (nP s (nP s (nP s q e) (nE s q e)) (tN m s (nP s q e) (nE s q e))) (tN m s (nP s (nP s q e) (nE s q e)) (tN m s (nP s q e) (nE s q e))) : Nat), tT m s (nP s (nP s (nP s (nP s q e) (nE s q e)) (tN m s (nP s q e) (nE s q e))) (tN m s (nP s (nP s q e) (nE s q e)) (tN m s (nP s q e) (nE s q e)))) (nE s (nP s (nP s (nP s q e) (nE s q e)) (tN m s (nP s q e) (nE s q e))) (tN m s (nP s (nP s q e) (nE s q e)) (tN m s (nP s q e) (nE s q e)))), (oneC m s q e).1.args⟩, (oneC m s q e).2)) := Lib.hid (fun q e => rfl)
  have z4' : Hid (sb < W.heap.size) := Lib.hid S0.out.bx.lt
  clear hp hm hml hs hD3 B1 z1 z2 f01 f12 f23 f34 be3 HM z4
  unfold QPP at K1 HT HN HMo HMf HMc HDn
  generalize QD w x r pA pc m s = D at *
  generalize rdG m s = G at *
  generalize rdW m s = WT at *
  generalize rdK m s = KT at *
  generalize rdO m s = OT at *
  generalize rdF m s = FT at *
  generalize rdC m s = CT at *
  generalize rdE m s = E at *
  generalize rdS m s = V at *
  generalize nM s KT.2.1 KT.2.2 = nO at *
  generalize nP s KT.2.1 KT.2.2 = pO at *
  generalize eL s KT.2.1 KT.2.2 = eO at *
  generalize nM s OT.2.1 OT.2.2 = nF at *
  generalize nP s OT.2.1 OT.2.2 = pF at *
  generalize eL s OT.2.1 OT.2.2 = eF at *
  generalize nM s FT.2.1 FT.2.2 = nC at *
  generalize nP s FT.2.1 FT.2.2 = pC at *
  generalize eL s FT.2.1 FT.2.2 = eC at *
  generalize oneO m s = o1 at *
  generalize tT m s 0 0 = a at *
  generalize nP s 0 0 = p0 at *
  generalize tN m s 0 0 = e0 at *
  go_enter Try.func17, Try.ntmps17
  go_upto_region 1 with fail
  rw [← hW1.out]
  go_upto_region 3 with fail
  rw [← hsb.out, ← hx.out, ← hr.out, ← hW2.out, ← hW3.out, ← hWe.out]
  clear hW1 hW2 hW3 hWe hsb hx hr z3
  generalize hbx : w.heap.size = bx at *
  replace hbx := Lib.hid hbx
  go_wp2_with fail
  refine K1.out.mono ?_
  rintro e w2 ⟨rfl, y4, f4⟩
  have T4 := Lib.hid (S0.out.read y4 f4)
  have c4 := T4.out.bx.cell 0
  have g4 := T4.out.bx.free 0
  clear y4 f4 K1 S0
  go_upto_region 4 with fail
  have S3 := Lib.hid (SW2.put HR.out hLow.out.1 T4.out 0 (.string a))
  generalize w2.setCell ⟨sb, 0, none⟩ (.string a) = w3 at *
  clear c4 g4 T4
  have hLo : Hid (∀ y ∈ [r, sb, bx], y < sb + 1) := Lib.hid (fun y hy => by
    have h2 := hLow.out
    simp only [List.mem_cons, List.not_mem_nil, or_false] at hy
    omega)
  have KX := Lib.hid (HK0.out w3 S3.out.pd)
  have hz3 : sb + 1 ≤ w3.heap.size := S3.out.bx.lt
  go_wp2_with fail
  refine KX.out.mono ?_
  rintro e w4 hP
  obtain ⟨gA, gc, gb, hg, rfl, tl, y4, f4⟩ := LP2.ll hP hz3
  replace hg := Lib.hid hg
  have Tg := Lib.hid tl
  have T4 := Lib.hid (S3.out.read y4 f4)
  have c4 := T4.out.bx.cell 1
  have g4 := T4.out.bx.free 1
  clear y4 f4 KX S3 HK0 hP hz3 tl
  go_upto_region 5 with fail
  have Sw5 := Lib.hid (SW2.put HR.out hLow.out.1 T4.out 1 (.slice gA gb.length gc))
  have F4 : Hid (Fr [sb] w4 (w4.setCell ⟨sb, 1, none⟩ (.slice gA gb.length gc))) := Lib.hid ((Fr.refl [sb] w4).setCell (p := ⟨sb, 1, none⟩) (Or.inl (by simp)) _)
  generalize w4.setCell ⟨sb, 1, none⟩ (.slice gA gb.length gc) = w5 at *
  have Tg := Lib.hid (LL.kept gTx Tg.out F4.out (fun y hy => hLo.out y (by rw [List.mem_singleton] at hy; subst hy; simp)))
  clear c4 g4 T4 F4
  have KX := Lib.hid (HK1.out w5 Sw5.out.pd)
  have hz3 : sb + 1 ≤ w5.heap.size := Sw5.out.bx.lt
  go_wp2_with fail
  refine KX.out.mono ?_
  rintro e w6 hP
  obtain ⟨wA, wc, wb, hw, rfl, tl, y4, f4⟩ := LP2.ll hP hz3
  replace hw := Lib.hid hw
  have Tg := Lib.hid (LL.kept gTx Tg.out f4 (fun y hy => hLo.out y (by rw [List.mem_singleton] at hy; subst hy; simp)))
  have Tw := Lib.hid tl
  have T4 := Lib.hid (Sw5.out.read y4 f4)
  have c4 := T4.out.bx.cell 2
  have g4 := T4.out.bx.free 2
  clear y4 f4 KX Sw5 HK1 hP hz3 tl
  go_upto_region 6 with fail
  have Sw7 := Lib.hid (SW2.put HR.out hLow.out.1 T4.out 2 (.slice wA wb.length wc))
  have F4 : Hid (Fr [sb] w6 (w6.setCell ⟨sb, 2, none⟩ (.slice wA wb.length wc))) := Lib.hid ((Fr.refl [sb] w6).setCell (p := ⟨sb, 2, none⟩) (Or.inl (by simp)) _)
  generalize w6.setCell ⟨sb, 2, none⟩ (.slice wA wb.length wc) = w7 at *
  have Tg := Lib.hid (LL.kept gTx Tg.out F4.out (fun y hy => hLo.out y (by rw [List.mem_singleton] at hy; subst hy; simp)))
  have Tw := Lib.hid (LL.kept gTx Tw.out F4.out (fun y hy => hLo.out y (by rw [List.mem_singleton] at hy; subst hy; simp)))
  clear c4 g4 T4 F4
  have KX := Lib.hid (HK2.out w7 Sw7.out.pd)
  have hz3 : sb + 1 ≤ w7.heap.size := Sw7.out.bx.lt
  go_wp2_with fail
  refine KX.out.mono ?_
  rintro e w8 hP
  obtain ⟨kA, kc, kb, hk, rfl, tl, y4, f4⟩ := LP2.ll hP hz3
  replace hk := Lib.hid hk
  have Tg := Lib.hid (LL.kept gTx Tg.out f4 (fun y hy => hLo.out y (by rw [List.mem_singleton] at hy; subst hy; simp)))
  have Tw := Lib.hid (LL.kept gTx Tw.out f4 (fun y hy => hLo.out y (by rw [List.mem_singleton] at hy; subst hy; simp)))
  have Tk := Lib.hid tl
  have T4 := Lib.hid (Sw7.out.read y4 f4)
  have c4 := T4.out.bx.cell 3
  have g4 := T4.out.bx.free 3
  clear y4 f4 KX Sw7 HK2 hP hz3 tl
  go_upto_region 7 with fail
  have Sw9 := Lib.hid (SW2.put HR.out hLow.out.1 T4.out 3 (.slice kA kb.length kc))
  have F4 : Hid (Fr [sb] w8 (w8.setCell ⟨sb, 3, none⟩ (.slice kA kb.length kc))) := Lib.hid ((Fr.refl [sb] w8).setCell (p := ⟨sb, 3, none⟩) (Or.inl (by simp)) _)
  generalize w8.setCell ⟨sb, 3, none⟩ (.slice kA kb.length kc) = w9 at *
  have Tg := Lib.hid (LL.kept gTx Tg.out F4.out (fun y hy => hLo.out y (by rw [List.mem_singleton] at hy; subst hy; simp)))
  have Tw := Lib.hid (LL.kept gTx Tw.out F4.out (fun y hy => hLo.out y (by rw [List.mem_singleton] at hy; subst hy; simp)))
  have Tk := Lib.hid (LL.kept gTx Tk.out F4.out (fun y hy => hLo.out y (by rw [List.mem_singleton] at hy; subst hy; simp)))
  clear c4 g4 T4 F4
  have KX := Lib.hid (HMo.out w9 Sw9.out.pd)
  go_wp2_with fail
  refine KX.out.mono ?_
  rintro e Wo ⟨rfl, y4, f4⟩
  have Tg := Lib.hid (LL.kept gTx Tg.out f4 (fun y hy => hLo.out y (by rw [List.mem_singleton] at hy; subst hy; simp)))
  have Tw := Lib.hid (LL.kept gTx Tw.out f4 (fun y hy => hLo.out y (by rw [List.mem_singleton] at hy; subst hy; simp)))
  have Tk := Lib.hid (LL.kept gTx Tk.out f4 (fun y hy => hLo.out y (by rw [List.mem_singleton] at hy; subst hy; simp)))
  have SA := Lib.hid (Sw9.out.read y4 f4)
  clear y4 f4 KX Sw9 HMo
  go_upto_block 0 with fail
  have hFo : Hid (∀ y ∈ [r, sb], y < Wo.heap.size) := Lib.hid (fun y hy => by
    have a1 := SA.out.bx.lt
    have a2 := hLow.out
    simp only [List.mem_cons, List.not_mem_nil, or_false] at hy
    omega)
  have hWA : Hid (x + 1 ≤ Wo.heap.size ∧ sb + 1 ≤ Wo.heap.size ∧ r ≠ sb ∧ x + 1 ≤ sb) := Lib.hid (by
    have a1 := SA.out.bx.lt
    have a2 := hLow.out
    omega)
  have L0 : Hid (LS2 EOb 3 [r, sb] D pO eO Wo 76 none 0 [] Wo) := Lib.hid (LS2.start SA.out.pd (Fr.refl _ _) hFo.out)
  have hR0 : Hid (OT = (([] : List MO).map MO.o ++ (goL o1 (nO - 0) pO eO).1, (goL o1 (nO - 0) pO eO).2)) := Lib.hid hO.out
  have B0 : Hid (Box Wo sb 29 #[.string a, .slice gA gb.length gc, .slice wA wb.length wc, .slice kA kb.length kc, .slice none ([] : List MO).length 0, .slice none 0 0, .slice none 0 0]) := Lib.hid SA.out.bx
  have hfA : Hid (Fr [r] W3 Wo) := Lib.hid SA.out.fr
  clear SA hO
  go_cut [9] from 36 to 59 (fun _ wx => ∃ (A : Option Addr) (cap : Nat) (xs : List MO) (q : Nat) (eq : Int), Hid (OT = (xs.map MO.o, q, eq)) ∧ Hid (LS2 EOb 3 [r, sb] D q eq Wo 76 A cap xs wx) ∧ Hid (Box wx sb 29 #[.string a, .slice gA gb.length gc, .slice wA wb.length wc, .slice kA kb.length kc, .slice A xs.length cap, .slice none 0 0, .slice none 0 0]))
  case first =>
    go_wp2_with fail
    go_loopw [9] (fun i wr => ∃ (k : Nat) (A : Option Addr) (cap : Nat) (xs : List MO) (q : Nat) (eq : Int), k ≤ nO ∧ i = .int .i64 k ∧ xs.length ≤ k ∧ Hid (LS2 EOb 3 [r, sb] D q eq Wo 76 A cap xs wr) ∧ Hid (Box wr sb 29 #[.string a, .slice gA gb.length gc, .slice wA wb.length wc, .slice kA kb.length kc, .slice A xs.length cap, .slice none 0 0, .slice none 0 0]) ∧ Hid (q ≤ s.size) ∧ Hid (eq ≠ 6) ∧ Hid (OT = (xs.map MO.o ++ (goL o1 (nO - k) q eq).1, (goL o1 (nO - k) q eq).2))) (fun i _ => nO - (intOf i).toNat)
    case atStart => exact ⟨0, none, 0, [], pO, eO, by omega, rfl, by simp, L0, B0, qO, EO, hR0⟩
    case round =>
      obtain ⟨k, A, cap, xs, q, eq, hk, rfl, hxl, HL, HBo, hq, hq6, hRk⟩ := hrel
      clear L0 hR0 B0 qO EO
      obtain ⟨c0, c1, c2⟩ := HDc.out _ _ _ HL.out.pd
      by_cases hkn : k < nO
      · have d1 : decide ((k : Int) < (nO : Int)) = true := decide_eq_true (by omega)
        by_cases h0 : eq = 0
        · subst h0
          have hRn := Lib.hid (go_round o1 MO.o hkn hRk.out)
          obtain ⟨hqn, hen⟩ := okO.out q 0 hq.out hq6.out
          replace hqn := Lib.hid hqn
          replace hen := Lib.hid hen
          have Ld := Lib.hid (HL.out.read gOb (HDd.out _ _ _ HL.out.pd) ((Fr.refl [r, sb] wr).drew))
          have Bd : Hid (Box wr.drew sb 29 #[.string a, .slice gA gb.length gc, .slice wA wb.length wc, .slice kA kb.length kc, .slice A xs.length cap, .slice none 0 0, .slice none 0 0]) := HBo
          have KO := Lib.hid (HO.out wr.drew q 0 hq.out hq6.out Ld.out.pd)
          unfold OP at KO
          have e4 : wr.cell? ⟨sb, 4, none⟩ = some (.slice A xs.length cap) := HBo.out.cell 4
          have e4d : wr.drew.cell? ⟨sb, 4, none⟩ = some (.slice A xs.length cap) := HBo.out.cell 4
          obtain ⟨i0, hi0, hz0, hz1, hz2⟩ := infp_ob
          replace hi0 := Lib.hid hi0
          replace hz0 := Lib.hid hz0
          replace hz1 := Lib.hid hz1
          replace hz2 := Lib.hid hz2
          clear HL HBo hRk
          generalize (o1 q 0).1 = y at *
          generalize (o1 q 0).2.1 = q2 at *
          generalize (o1 q 0).2.2 = e3 at *
          clear hq hq6
          have h63 : xs.length + 1 ≤ 9223372036854775807 := by omega
          have hby : (xs.length + 1) * 56 ≤ 140737488355328 := by omega
          go_upto_region 11 with fail
          go_region_law
            (first
              | (go_simp; go_at_call 39; refine KO.out.mono ?_; rintro e w5 ⟨b, he, hpr, d5, f5, o5, n5⟩; obtain rfl : e = .returned (.agg #[.string b.o.name, .string b.o.kinds, .slice b.mA b.o.marks.length b.mc]) := he; have N5 := Lib.hid (Ld.out.new n5); have L5 := Lib.hid (Ld.out.read gOb d5 (Fr.more f5 (show r ∈ [r, sb] by simp))); have O5 := Lib.hid o5; have B5 := Lib.hid (Bd.out.kept f5 (by have := hWA.out.2.2.1; simpa using this.symm)); have e5 := B5.out.cell 4; have e5a : (w5.alloc (.cells #[.string b.o.name, .string b.o.kinds, .slice b.mA b.o.marks.length b.mc] 76)).cell? ⟨sb, 4, none⟩ = some (.slice A xs.length cap) := (B5.out.kept ((Fr.refl [] w5).alloc _) (by simp)).cell 4; replace hpr := Lib.hid hpr; clear d5 f5 o5 n5)
              | (refine step_rowq (us := [.string b.o.name, .string b.o.kinds, .slice b.mA b.o.marks.length b.mc]) (by rfl) (.tmp 53) (.tmp 56) _ (by rfl) (L5.out.sg.alloc _) Try.underlying23 hi0.out hz0.out hz1.out hz2.out rfl (by rfl) (by rfl) rfl (row_cells _ _ [.string b.o.name, .string b.o.kinds, .slice b.mA b.o.marks.length b.mc]) (gOb.one b) h63 hby ?_; intro A3 cap3 w9 hs6 f6 hf6; have L9 := Lib.hid (L5.out.push HR.out gOb hWA.out.1 O5.out N5.out hs6 f6 hf6); have B9 := Lib.hid ((B5.out.kept ((Fr.refl [] w5).alloc _) (by simp)).kept f6 (fun hx => by have a1 := L5.out.nw sb hx; have a2 := hFo.out sb (by simp); omega)); have c9 := B9.out.cell 4; have v9 := B9.out.free 4; clear hs6 f6 hf6))
          all_goals
            have hxl2 : (xs ++ [b]).length = xs.length + 1 := by simp
            have hRm : Hid (OT = ((xs ++ [b]).map MO.o ++ (goL o1 (nO - (k + 1)) q2 e3).1, (goL o1 (nO - (k + 1)) q2 e3).2)) := Lib.hid (by rw [List.map_append, List.map_singleton, hpr.out]; exact hRn.out)
            have fs : Fr [sb] w9 (w9.setCell ⟨sb, 4, none⟩ (.slice A3 (xs.length + 1) cap3)) := (Fr.refl [sb] w9).setCell (p := ⟨sb, 4, none⟩) (Or.inl (by simp)) _
            have L10 := Lib.hid (L9.out.read gOb (HR.out.kept L9.out.pd fs (fun y hy => by rw [List.mem_singleton] at hy; have := hWA.out.2.2.2; omega)) (Fr.more fs (show sb ∈ [r, sb] by simp)))
            have B10 := Lib.hid (B9.out.put 4 (.slice A3 (xs.length + 1) cap3))
            clear fs c9 v9 L9 B9 hRn hpr e5 e5a e4 e4d
            generalize w9.setCell ⟨sb, 4, none⟩ (.slice A3 (xs.length + 1) cap3) = wz at *
            go_wp2_with fail
            go_roundw
            case rel => exact ⟨k + 1, A3, cap3, xs ++ [b], q2, e3, by omega, by go_num, by omega, L10, by rw [hxl2]; exact B10, hqn, hen, hRm⟩
            case measure => simp [intOf]; omega
        · have d2 : (eq == 0) = false := by simpa using h0
          have hRn := Lib.hid (go_stop o1 MO.o hq6.out h0 hRk.out)
          clear hq hq6 hRk h0
          go_wp2_with fail
          go_meet
          exact ⟨A, cap, xs, q, eq, hRn, HL, HBo⟩
      · obtain rfl : k = nO := by omega
        have d1 : decide ((k : Int) < (k : Int)) = false := decide_eq_false (by omega)
        have hRn := Lib.hid (go_done o1 MO.o hRk.out)
        clear hq hq6 hRk
        go_wp2_with fail
        go_meet
        exact ⟨A, cap, xs, q, eq, hRn, HL, HBo⟩
  obtain ⟨oA, oc, ob, q4, e4, ho, Lo, Bo⟩ := hcut
  rename World => wB
  obtain rfl : q4 = OT.2.1 := by rw [ho.out]
  obtain rfl : e4 = OT.2.2 := by rw [ho.out]
  have hom : ob.map MO.o = OT.1 := by rw [ho.out]
  replace hom := Lib.hid hom
  have SwB : Hid (SW2 D [r] OT.2.1 OT.2.2 W3 29 sb #[.string a, .slice gA gb.length gc, .slice wA wb.length wc, .slice kA kb.length kc, .slice oA ob.length oc, .slice none 0 0, .slice none 0 0] wB) := Lib.hid ⟨Lo.out.pd, hfA.out.trans Lo.out.fr (fun y hy => Or.inl hy) (fun y hy => by
    have a2 := hLow.out
    simp only [List.mem_cons, List.not_mem_nil, or_false] at hy
    rcases hy with rfl | rfl
    · exact Or.inl (by simp)
    · exact Or.inr (by omega)), Bo.out, by have a2 := hLow.out; omega, fun y hy => by have a2 := hLow.out; rw [List.mem_singleton] at hy; omega⟩
  have Tg := Lib.hid (LL.kept gTx Tg.out Lo.out.fr (fun y hy => hLo.out y (by simp only [List.mem_cons, List.not_mem_nil, or_false] at hy; rcases hy with rfl | rfl <;> simp)))
  have Tw := Lib.hid (LL.kept gTx Tw.out Lo.out.fr (fun y hy => hLo.out y (by simp only [List.mem_cons, List.not_mem_nil, or_false] at hy; rcases hy with rfl | rfl <;> simp)))
  have Tk := Lib.hid (LL.kept gTx Tk.out Lo.out.fr (fun y hy => hLo.out y (by simp only [List.mem_cons, List.not_mem_nil, or_false] at hy; rcases hy with rfl | rfl <;> simp)))
  have To := Lib.hid (Lo.out.ll hWA.out.2.1)
  clear Lo Bo ho hfA hFo hWA
  have KX := Lib.hid (HMf.out wB SwB.out.pd)
  go_wp2_with fail
  refine KX.out.mono ?_
  rintro e Wf ⟨rfl, y4, f4⟩
  have Tg := Lib.hid (LL.kept gTx Tg.out f4 (fun y hy => hLo.out y (by rw [List.mem_singleton] at hy; subst hy; simp)))
  have Tw := Lib.hid (LL.kept gTx Tw.out f4 (fun y hy => hLo.out y (by rw [List.mem_singleton] at hy; subst hy; simp)))
  have Tk := Lib.hid (LL.kept gTx Tk.out f4 (fun y hy => hLo.out y (by rw [List.mem_singleton] at hy; subst hy; simp)))
  have To := Lib.hid (LL.kept gOb To.out f4 (fun y hy => hLo.out y (by rw [List.mem_singleton] at hy; subst hy; simp)))
  have SA := Lib.hid (SwB.out.read y4 f4)
  clear y4 f4 KX SwB HMf
  go_upto_block 2 with fail
  have hFo : Hid (∀ y ∈ [r, sb], y < Wf.heap.size) := Lib.hid (fun y hy => by
    have a1 := SA.out.bx.lt
    have a2 := hLow.out
    simp only [List.mem_cons, List.not_mem_nil, or_false] at hy
    omega)
  have hWA : Hid (x + 1 ≤ Wf.heap.size ∧ sb + 1 ≤ Wf.heap.size ∧ r ≠ sb ∧ x + 1 ≤ sb) := Lib.hid (by
    have a1 := SA.out.bx.lt
    have a2 := hLow.out
    omega)
  have L0 : Hid (LS2 EFn 3 [r, sb] D pF eF Wf 80 none 0 [] Wf) := Lib.hid (LS2.start SA.out.pd (Fr.refl _ _) hFo.out)
  have hR0 : Hid (FT = (([] : List SF).map (fun m : SF => m) ++ (goL (oneF m s) (nF - 0) pF eF).1, (goL (oneF m s) (nF - 0) pF eF).2)) := Lib.hid hF.out
  have B0 : Hid (Box Wf sb 29 #[.string a, .slice gA gb.length gc, .slice wA wb.length wc, .slice kA kb.length kc, .slice oA ob.length oc, .slice none ([] : List SF).length 0, .slice none 0 0]) := Lib.hid SA.out.bx
  have hfA : Hid (Fr [r] W3 Wf) := Lib.hid SA.out.fr
  clear SA hF
  go_cut [10, 11] from 62 to 93 (fun _ _ wx => ∃ (A : Option Addr) (cap : Nat) (xs : List SF) (q : Nat) (eq : Int), Hid (FT = (xs.map (fun m : SF => m), q, eq)) ∧ Hid (LS2 EFn 3 [r, sb] D q eq Wf 80 A cap xs wx) ∧ Hid (Box wx sb 29 #[.string a, .slice gA gb.length gc, .slice wA wb.length wc, .slice kA kb.length kc, .slice oA ob.length oc, .slice A xs.length cap, .slice none 0 0]))
  case first =>
    go_wp2_with fail
    go_loopw [10] (fun i wr => ∃ (k : Nat) (A : Option Addr) (cap : Nat) (xs : List SF) (q : Nat) (eq : Int), k ≤ nF ∧ i = .int .i64 k ∧ xs.length ≤ k ∧ Hid (LS2 EFn 3 [r, sb] D q eq Wf 80 A cap xs wr) ∧ Hid (Box wr sb 29 #[.string a, .slice gA gb.length gc, .slice wA wb.length wc, .slice kA kb.length kc, .slice oA ob.length oc, .slice A xs.length cap, .slice none 0 0]) ∧ Hid (q ≤ s.size) ∧ Hid (eq ≠ 6) ∧ Hid (FT = (xs.map (fun m : SF => m) ++ (goL (oneF m s) (nF - k) q eq).1, (goL (oneF m s) (nF - k) q eq).2))) (fun i _ => nF - (intOf i).toNat)
    case atStart => exact ⟨0, none, 0, [], pF, eF, by omega, rfl, by simp, L0, B0, qF, EF, hR0⟩
    case round =>
      obtain ⟨k, A, cap, xs, q, eq, hk, rfl, hxl, HL, HBo, hq, hq6, hRk⟩ := hrel
      clear L0 hR0 B0 qF EF
      obtain ⟨c0, c1, c2⟩ := HDc.out _ _ _ HL.out.pd
      by_cases hkn : k < nF
      · have d1 : decide ((k : Int) < (nF : Int)) = true := decide_eq_true (by omega)
        by_cases h0 : eq = 0
        · subst h0
          have hRn := Lib.hid (go_round (oneF m s) (fun m : SF => m) hkn hRk.out)
          obtain ⟨hqn, hen⟩ := okF.out q 0 hq.out hq6.out
          rw [hFe.out q 0] at hRn hqn hen
          dsimp only at hRn hqn hen
          replace hqn := Lib.hid hqn
          replace hen := Lib.hid hen
          have KF1 := Lib.hid (HT.out wr q 0 hq.out hq6.out HL.out.pd)
          have KF2 := Lib.hid (fun w5 (d : D (nP s q 0) (tN m s q 0) w5) => HT.out w5 _ _ (hQ.out q 0 hq.out) (hTE.out q 0 hq6.out) d)
          have KF3 := Lib.hid (fun w5 (d : D (nP s (nP s q 0) (tN m s q 0)) (tN m s (nP s q 0) (tN m s q 0)) w5) => HT.out w5 _ _ (hQ.out _ _ (hQ.out q 0 hq.out)) (hTE.out _ _ (hTE.out q 0 hq6.out)) d)
          have s1 := Lib.hid (HTS.out q 0)
          have s2 := Lib.hid (HTS.out (nP s q 0) (tN m s q 0))
          have s3 := Lib.hid (HTS.out (nP s (nP s q 0) (tN m s q 0)) (tN m s (nP s q 0) (tN m s q 0)))
          clear hRk
          generalize tT m s q 0 = a1 at *
          generalize nP s q 0 = q1 at *
          generalize tN m s q 0 = ee1 at *
          generalize tT m s q1 ee1 = a2 at *
          generalize nP s q1 ee1 = q2 at *
          generalize tN m s q1 ee1 = ee2 at *
          generalize tT m s q2 ee2 = a3 at *
          generalize nP s q2 ee2 = q3 at *
          generalize tN m s q2 ee2 = ee3 at *
          go_wp2_with fail
          refine KF1.out.mono ?_
          rintro e v0 ⟨rfl, da, fa⟩
          have Sa0 := Lib.hid (SW2.new HR.out da fa (fun y hy => Nat.lt_of_lt_of_le (hFo.out y (by rw [List.mem_singleton] at hy; subst hy; simp)) HL.out.fr.size) 80 #[.string a1, .string ⟨#[]⟩, .string ⟨#[]⟩])
          clear da fa KF1 c0 c1 c2
          go_upto_region 17 with fail
          generalize v0.alloc (.cells #[.string a1, .string ⟨#[]⟩, .string ⟨#[]⟩] 80) = v1 at *
          generalize v0.heap.size = mb at *
          have KX := Lib.hid (KF2.out v1 Sa0.out.pd)
          go_wp2_with fail
          refine KX.out.mono ?_
          rintro e v2 ⟨rfl, da, fa⟩
          have T4 := Lib.hid (Sa0.out.read da fa)
          have k4 := T4.out.bx.cell 1
          have g4 := T4.out.bx.free 1
          clear da fa KX Sa0 KF2
          go_upto_region 18 with fail
          have Sa1 := Lib.hid (SW2.put HR.out (Nat.le_trans hWA.out.1 HL.out.fr.size) T4.out 1 (.string a2))
          generalize v2.setCell ⟨mb, 1, none⟩ (.string a2) = v3 at *
          clear k4 g4 T4
          have KX := Lib.hid (KF3.out v3 Sa1.out.pd)
          go_wp2_with fail
          refine KX.out.mono ?_
          rintro e v4 ⟨rfl, da, fa⟩
          have T4 := Lib.hid (Sa1.out.read da fa)
          have k4 := T4.out.bx.cell 2
          have g4 := T4.out.bx.free 2
          clear da fa KX Sa1 KF3
          go_upto_region 19 with fail
          have Sa2 := Lib.hid (SW2.put HR.out (Nat.le_trans hWA.out.1 HL.out.fr.size) T4.out 2 (.string a3))
          generalize v4.setCell ⟨mb, 2, none⟩ (.string a3) = v5 at *
          clear k4 g4 T4
          have Frr : Hid (Fr [r] wr v5) := Lib.hid Sa2.out.fr
          have L8 := Lib.hid (HL.out.read gFn Sa2.out.pd (Fr.more Frr.out (show r ∈ [r, sb] by simp)))
          have Bo8 := Lib.hid (HBo.out.kept Frr.out (by have := hWA.out.2.2.1; simpa using this.symm))
          have HBk : Hid (∀ o w9, Fr (blk A) (v5.alloc o) w9 → Box w9 sb 29 #[.string a, .slice gA gb.length gc, .slice wA wb.length wc, .slice kA kb.length kc, .slice oA ob.length oc, .slice A xs.length cap, .slice none 0 0]) := Lib.hid (fun o w9 f => (Bo8.out.kept ((Fr.refl [] v5).alloc o) (by simp)).kept f (fun hx => by have a1 := L8.out.nw sb hx; have a2 := hFo.out sb (by simp); omega))
          have m0 : v5.cell? ⟨mb, 0, none⟩ = some (.string a1) := Sa2.out.bx.cell 0
          have m1 : v5.cell? ⟨mb, 1, none⟩ = some (.string a2) := Sa2.out.bx.cell 1
          have m2 : v5.cell? ⟨mb, 2, none⟩ = some (.string a3) := Sa2.out.bx.cell 2
          have e2 : v5.cell? ⟨sb, 5, none⟩ = some (.slice A xs.length cap) := Bo8.out.cell 5
          obtain ⟨i0, hi0, hz0, hz1, hz2⟩ := infp_fn
          replace hi0 := Lib.hid hi0
          replace hz0 := Lib.hid hz0
          replace hz1 := Lib.hid hz1
          replace hz2 := Lib.hid hz2
          have hOk : Hid (EFn.ok v5 (⟨a1, a2, a3⟩ : SF)) := Lib.hid (⟨s1.out, s2.out, s3.out⟩)
          have hNw : Hid (∀ y ∈ EFn.bl (⟨a1, a2, a3⟩ : SF), Wf.heap.size ≤ y ∧ y ∉ blk A) := Lib.hid (fun y hy => by cases hy)
          clear HL HBo Frr Sa2 Bo8 hq hq6
          go_wp2_with (at_builtin; refine wpList_row (us := [.string a1, .string a2, .string a3]) rfl _ _ _ rfl (L8.out.sg.alloc _) Try.underlying24 hi0.out hz0.out hz1.out hz2.out rfl rfl rfl rfl (row_cells _ _ [.string a1, .string a2, .string a3]) (gFn.one (⟨a1, a2, a3⟩ : SF)) (by omega) (by omega) ?_; intro A3 cap3 w9 hs6 f6 hf6; have L9 := Lib.hid (L8.out.push HR.out gFn hWA.out.1 (b := (⟨a1, a2, a3⟩ : SF)) hOk.out hNw.out hs6 f6 hf6); have B9 := Lib.hid (HBk.out _ _ f6); have c9 := B9.out.cell 5; have v9 := B9.out.free 5; clear hs6 f6 hf6)
          have hxl2 : (xs ++ [(⟨a1, a2, a3⟩ : SF)]).length = xs.length + 1 := by simp
          have hRm : Hid (FT = ((xs ++ [(⟨a1, a2, a3⟩ : SF)]).map (fun m : SF => m) ++ (goL (oneF m s) (nF - (k + 1)) q3 ee3).1, (goL (oneF m s) (nF - (k + 1)) q3 ee3).2)) := Lib.hid (by rw [List.map_append, List.map_singleton]; exact hRn.out)
          have fs : Fr [sb] w9 (w9.setCell ⟨sb, 5, none⟩ (.slice A3 (xs.length + 1) cap3)) := (Fr.refl [sb] w9).setCell (p := ⟨sb, 5, none⟩) (Or.inl (by simp)) _
          have L10 := Lib.hid (L9.out.read gFn (HR.out.kept L9.out.pd fs (fun y hy => by rw [List.mem_singleton] at hy; have := hWA.out.2.2.2; omega)) (Fr.more fs (show sb ∈ [r, sb] by simp)))
          have B10 := Lib.hid (B9.out.put 5 (.slice A3 (xs.length + 1) cap3))
          clear fs c9 v9 L9 B9 hRn
          generalize w9.setCell ⟨sb, 5, none⟩ (.slice A3 (xs.length + 1) cap3) = wz at *
          go_roundw
          case rel => exact ⟨k + 1, A3, cap3, xs ++ [(⟨a1, a2, a3⟩ : SF)], q3, ee3, by omega, by go_num, by omega, L10, by rw [hxl2]; exact B10, hqn, hen, hRm⟩
          case measure => simp [intOf]; omega
        · have d2 : (eq == 0) = false := by simpa using h0
          have hRn := Lib.hid (go_stop (oneF m s) (fun m : SF => m) hq6.out h0 hRk.out)
          clear hq hq6 hRk h0
          go_wp2_with fail
          go_meet
          exact ⟨A, cap, xs, q, eq, hRn, HL, HBo⟩
      · obtain rfl : k = nF := by omega
        have d1 : decide ((k : Int) < (k : Int)) = false := decide_eq_false (by omega)
        have hRn := Lib.hid (go_done (oneF m s) (fun m : SF => m) hRk.out)
        clear hq hq6 hRk
        go_wp2_with fail
        go_meet
        exact ⟨A, cap, xs, q, eq, hRn, HL, HBo⟩
  obtain ⟨fA, fc, fb, q4, e4, hf, Lf, Bf⟩ := hcut
  rename World => wC
  obtain rfl : q4 = FT.2.1 := by rw [hf.out]
  obtain rfl : e4 = FT.2.2 := by rw [hf.out]
  have hfm : fb.map (fun m : SF => m) = FT.1 := by rw [hf.out]
  replace hfm := Lib.hid hfm
  have SwC : Hid (SW2 D [r] FT.2.1 FT.2.2 W3 29 sb #[.string a, .slice gA gb.length gc, .slice wA wb.length wc, .slice kA kb.length kc, .slice oA ob.length oc, .slice fA fb.length fc, .slice none 0 0] wC) := Lib.hid ⟨Lf.out.pd, hfA.out.trans Lf.out.fr (fun y hy => Or.inl hy) (fun y hy => by
    have a2 := hLow.out
    simp only [List.mem_cons, List.not_mem_nil, or_false] at hy
    rcases hy with rfl | rfl
    · exact Or.inl (by simp)
    · exact Or.inr (by omega)), Bf.out, by have a2 := hLow.out; omega, fun y hy => by have a2 := hLow.out; rw [List.mem_singleton] at hy; omega⟩
  have Tg := Lib.hid (LL.kept gTx Tg.out Lf.out.fr (fun y hy => hLo.out y (by simp only [List.mem_cons, List.not_mem_nil, or_false] at hy; rcases hy with rfl | rfl <;> simp)))
  have Tw := Lib.hid (LL.kept gTx Tw.out Lf.out.fr (fun y hy => hLo.out y (by simp only [List.mem_cons, List.not_mem_nil, or_false] at hy; rcases hy with rfl | rfl <;> simp)))
  have Tk := Lib.hid (LL.kept gTx Tk.out Lf.out.fr (fun y hy => hLo.out y (by simp only [List.mem_cons, List.not_mem_nil, or_false] at hy; rcases hy with rfl | rfl <;> simp)))
  have To := Lib.hid (LL.kept gOb To.out Lf.out.fr (fun y hy => hLo.out y (by simp only [List.mem_cons, List.not_mem_nil, or_false] at hy; rcases hy with rfl | rfl <;> simp)))
  have Tf := Lib.hid (Lf.out.ll hWA.out.2.1)
  clear Lf Bf hf hfA hFo hWA
  have KX := Lib.hid (HMc.out wC SwC.out.pd)
  go_wp2_with fail
  refine KX.out.mono ?_
  rintro e Wc ⟨rfl, y4, f4⟩
  have Tg := Lib.hid (LL.kept gTx Tg.out f4 (fun y hy => hLo.out y (by rw [List.mem_singleton] at hy; subst hy; simp)))
  have Tw := Lib.hid (LL.kept gTx Tw.out f4 (fun y hy => hLo.out y (by rw [List.mem_singleton] at hy; subst hy; simp)))
  have Tk := Lib.hid (LL.kept gTx Tk.out f4 (fun y hy => hLo.out y (by rw [List.mem_singleton] at hy; subst hy; simp)))
  have To := Lib.hid (LL.kept gOb To.out f4 (fun y hy => hLo.out y (by rw [List.mem_singleton] at hy; subst hy; simp)))
  have Tf := Lib.hid (LL.kept gFn Tf.out f4 (fun y hy => hLo.out y (by rw [List.mem_singleton] at hy; subst hy; simp)))
  have SA := Lib.hid (SwC.out.read y4 f4)
  clear y4 f4 KX SwC HMc
  go_upto_block 4 with fail
  have hFo : Hid (∀ y ∈ [r, sb], y < Wc.heap.size) := Lib.hid (fun y hy => by
    have a1 := SA.out.bx.lt
    have a2 := hLow.out
    simp only [List.mem_cons, List.not_mem_nil, or_false] at hy
    omega)
  have hWA : Hid (x + 1 ≤ Wc.heap.size ∧ sb + 1 ≤ Wc.heap.size ∧ r ≠ sb ∧ x + 1 ≤ sb) := Lib.hid (by
    have a1 := SA.out.bx.lt
    have a2 := hLow.out
    omega)
  have L0 : Hid (LS2 ECo 6 [r, sb] D pC eC Wc 84 none 0 [] Wc) := Lib.hid (LS2.start SA.out.pd (Fr.refl _ _) hFo.out)
  have hR0 : Hid (CT = (([] : List MC).map MC.c ++ (goL (oneC m s) (nC - 0) pC eC).1, (goL (oneC m s) (nC - 0) pC eC).2)) := Lib.hid hC.out
  have B0 : Hid (Box Wc sb 29 #[.string a, .slice gA gb.length gc, .slice wA wb.length wc, .slice kA kb.length kc, .slice oA ob.length oc, .slice fA fb.length fc, .slice none ([] : List MC).length 0]) := Lib.hid SA.out.bx
  have hfA : Hid (Fr [r] W3 Wc) := Lib.hid SA.out.fr
  clear SA hC
  go_cut [12, 13] from 96 to 142 (fun _ _ wx => ∃ (A : Option Addr) (cap : Nat) (xs : List MC) (q : Nat) (eq : Int), Hid (CT = (xs.map MC.c, q, eq)) ∧ Hid (LS2 ECo 6 [r, sb] D q eq Wc 84 A cap xs wx) ∧ Hid (Box wx sb 29 #[.string a, .slice gA gb.length gc, .slice wA wb.length wc, .slice kA kb.length kc, .slice oA ob.length oc, .slice fA fb.length fc, .slice A xs.length cap]))
  case first =>
    go_wp2_with fail
    go_loopw [12] (fun i wr => ∃ (k : Nat) (A : Option Addr) (cap : Nat) (xs : List MC) (q : Nat) (eq : Int), k ≤ nC ∧ i = .int .i64 k ∧ xs.length ≤ k ∧ Hid (LS2 ECo 6 [r, sb] D q eq Wc 84 A cap xs wr) ∧ Hid (Box wr sb 29 #[.string a, .slice gA gb.length gc, .slice wA wb.length wc, .slice kA kb.length kc, .slice oA ob.length oc, .slice fA fb.length fc, .slice A xs.length cap]) ∧ Hid (q ≤ s.size) ∧ Hid (eq ≠ 6) ∧ Hid (CT = (xs.map MC.c ++ (goL (oneC m s) (nC - k) q eq).1, (goL (oneC m s) (nC - k) q eq).2))) (fun i _ => nC - (intOf i).toNat)
    case atStart => exact ⟨0, none, 0, [], pC, eC, by omega, rfl, by simp, L0, B0, qC, EC, hR0⟩
    case round =>
      obtain ⟨k, A, cap, xs, q, eq, hk, rfl, hxl, HL, HBo, hq, hq6, hRk⟩ := hrel
      clear L0 hR0 B0 qC EC
      obtain ⟨c0, c1, c2⟩ := HDc.out _ _ _ HL.out.pd
      by_cases hkn : k < nC
      · have d1 : decide ((k : Int) < (nC : Int)) = true := decide_eq_true (by omega)
        by_cases h0 : eq = 0
        · subst h0
          have hRn := Lib.hid (go_round (oneC m s) MC.c hkn hRk.out)
          obtain ⟨hqn, hen⟩ := okC.out q 0 hq.out hq6.out
          rw [hCe.out q 0] at hRn
          dsimp only at hRn
          replace hqn := Lib.hid hqn
          replace hen := Lib.hid hen
          have KC0 := Lib.hid (HN.out wr q 0 hq.out HL.out.pd)
          have KC1 := Lib.hid (fun w5 (d : D (nP s q 0) (nE s q 0) w5) => HT.out w5 _ _ (hQ.out _ _ hq.out) (hNE.out q 0 hq6.out) d)
          have KC2 := Lib.hid (fun w5 (d : D (nP s (nP s q 0) (nE s q 0)) (tN m s (nP s q 0) (nE s q 0)) w5) => HT.out w5 _ _ (hQ.out _ _ (hQ.out _ _ hq.out)) (hTE.out _ _ (hNE.out q 0 hq6.out)) d)
          have KC3 := Lib.hid (fun w5 (d : D (nP s (nP s (nP s q 0) (nE s q 0)) (tN m s (nP s q 0) (nE s q 0))) (tN m s (nP s (nP s q 0) (nE s q 0)) (tN m s (nP s q 0) (nE s q 0))) w5) => HN.out w5 _ _ (hQ.out _ _ (hQ.out _ _ (hQ.out _ _ hq.out))) d)
          have KC4 := Lib.hid (fun w5 (d : D (nP s (nP s (nP s (nP s q 0) (nE s q 0)) (tN m s (nP s q 0) (nE s q 0))) (tN m s (nP s (nP s q 0) (nE s q 0)) (tN m s (nP s q 0) (nE s q 0)))) (nE s (nP s (nP s (nP s q 0) (nE s q 0)) (tN m s (nP s q 0) (nE s q 0))) (tN m s (nP s (nP s q 0) (nE s q 0)) (tN m s (nP s q 0) (nE s q 0)))) w5) => HT.out w5 _ _ (hQ.out _ _ (hQ.out _ _ (hQ.out _ _ (hQ.out _ _ hq.out)))) (hNE.out _ _ (hTE.out _ _ (hTE.out _ _ (hNE.out q 0 hq6.out)))) d)
          have KC5 := Lib.hid (HC6.out q 0 hq.out hq6.out)
          have s1 := Lib.hid (HTS.out (nP s q 0) (nE s q 0))
          have s2 := Lib.hid (HTS.out (nP s (nP s q 0) (nE s q 0)) (tN m s (nP s q 0) (nE s q 0)))
          have s4 := Lib.hid (HTS.out (nP s (nP s (nP s (nP s q 0) (nE s q 0)) (tN m s (nP s q 0) (nE s q 0))) (tN m s (nP s (nP s q 0) (nE s q 0)) (tN m s (nP s q 0) (nE s q 0)))) (nE s (nP s (nP s (nP s q 0) (nE s q 0)) (tN m s (nP s q 0) (nE s q 0))) (tN m s (nP s (nP s q 0) (nE s q 0)) (tN m s (nP s q 0) (nE s q 0)))))
          have sL := Lib.hid (HCS.out q 0)
          clear hRk
          generalize (oneC m s q 0).1.args = args at *
          generalize (oneC m s q 0).2.1 = q6 at *
          generalize (oneC m s q 0).2.2 = ee6 at *
          generalize nV s q 0 = k0 at *
          generalize nP s q 0 = q1 at *
          generalize nE s q 0 = ee1 at *
          generalize tT m s q1 ee1 = t1 at *
          generalize nP s q1 ee1 = q2 at *
          generalize tN m s q1 ee1 = ee2 at *
          generalize tT m s q2 ee2 = t2 at *
          generalize nP s q2 ee2 = q3 at *
          generalize tN m s q2 ee2 = ee3 at *
          generalize nV s q3 ee3 = k3 at *
          generalize nP s q3 ee3 = q4 at *
          generalize nE s q3 ee3 = ee4 at *
          generalize tT m s q4 ee4 = t4 at *
          generalize nP s q4 ee4 = q5 at *
          generalize tN m s q4 ee4 = ee5 at *
          go_wp2_with fail
          refine KC0.out.mono ?_
          rintro e v0 ⟨rfl, da, fa⟩
          have Sa0 := Lib.hid (SW2.new HR.out da fa (fun y hy => Nat.lt_of_lt_of_le (hFo.out y (by rw [List.mem_singleton] at hy; subst hy; simp)) HL.out.fr.size) 84 #[.int .i64 (k0 : Int), .string ⟨#[]⟩, .string ⟨#[]⟩, .int .i64 0, .string ⟨#[]⟩, .slice none 0 0])
          clear da fa KC0 c0 c1 c2
          go_upto_region 25 with fail
          generalize v0.alloc (.cells #[.int .i64 (k0 : Int), .string ⟨#[]⟩, .string ⟨#[]⟩, .int .i64 0, .string ⟨#[]⟩, .slice none 0 0] 84) = v1 at *
          generalize v0.heap.size = mb at *
          have KX := Lib.hid (KC1.out v1 Sa0.out.pd)
          go_wp2_with fail
          refine KX.out.mono ?_
          rintro e v2 ⟨rfl, da, fa⟩
          have T4 := Lib.hid (Sa0.out.read da fa)
          have k4 := T4.out.bx.cell 1
          have g4 := T4.out.bx.free 1
          clear da fa KX Sa0 KC1
          go_upto_region 26 with fail
          have Sa1 := Lib.hid (SW2.put HR.out (Nat.le_trans hWA.out.1 HL.out.fr.size) T4.out 1 (.string t1))
          generalize v2.setCell ⟨mb, 1, none⟩ (.string t1) = v3 at *
          clear k4 g4 T4
          have KX := Lib.hid (KC2.out v3 Sa1.out.pd)
          go_wp2_with fail
          refine KX.out.mono ?_
          rintro e v4 ⟨rfl, da, fa⟩
          have T4 := Lib.hid (Sa1.out.read da fa)
          have k4 := T4.out.bx.cell 2
          have g4 := T4.out.bx.free 2
          clear da fa KX Sa1 KC2
          go_upto_region 27 with fail
          have Sa2 := Lib.hid (SW2.put HR.out (Nat.le_trans hWA.out.1 HL.out.fr.size) T4.out 2 (.string t2))
          generalize v4.setCell ⟨mb, 2, none⟩ (.string t2) = v5 at *
          clear k4 g4 T4
          have KX := Lib.hid (KC3.out v5 Sa2.out.pd)
          obtain ⟨c0, c1, c2⟩ := HDc.out _ _ _ Sa2.out.pd
          go_wp2_with fail
          refine KX.out.mono ?_
          rintro e v6 ⟨rfl, da, fa⟩
          have T4 := Lib.hid (Sa2.out.read da fa)
          have k4 := T4.out.bx.cell 3
          have g4 := T4.out.bx.free 3
          clear da fa KX Sa2 KC3 c0 c1 c2
          go_upto_region 28 with fail
          have Sa3 := Lib.hid (SW2.put HR.out (Nat.le_trans hWA.out.1 HL.out.fr.size) T4.out 3 (.int .i64 (k3 : Int)))
          generalize v6.setCell ⟨mb, 3, none⟩ (.int .i64 (k3 : Int)) = v7 at *
          clear k4 g4 T4
          have KX := Lib.hid (KC4.out v7 Sa3.out.pd)
          go_wp2_with fail
          refine KX.out.mono ?_
          rintro e v8 ⟨rfl, da, fa⟩
          have T4 := Lib.hid (Sa3.out.read da fa)
          have k4 := T4.out.bx.cell 4
          have g4 := T4.out.bx.free 4
          clear da fa KX Sa3 KC4
          go_upto_region 29 with fail
          have Sa4 := Lib.hid (SW2.put HR.out (Nat.le_trans hWA.out.1 HL.out.fr.size) T4.out 4 (.string t4))
          generalize v8.setCell ⟨mb, 4, none⟩ (.string t4) = v9 at *
          clear k4 g4 T4
          have KX := Lib.hid (KC5.out v9 Sa4.out.pd)
          go_wp2_with fail
          refine KX.out.mono ?_
          rintro e v10 hP
          obtain ⟨aA, ac, ab, hab, rfl, tl, da, fa⟩ := LP2.ll hP (Nat.le_refl _)
          rw [List.map_id'] at hab
          subst hab
          have Tx := Lib.hid tl
          have T4 := Lib.hid (Sa4.out.read da fa)
          have k4 := T4.out.bx.cell 5
          have g4 := T4.out.bx.free 5
          have hmb := Lib.hid (show mb < v9.heap.size from Sa4.out.bx.lt)
          have hcr := Lib.hid (show wr.heap.size ≤ v9.heap.size from Sa4.out.fr.size)
          have Tw5 : Hid (∀ y ∈ blk aA, v9.heap.size ≤ y) := Lib.hid (fun y hy => tl.nw y hy)
          clear tl hP
          clear da fa KX Sa4 KC5
          go_upto_region 30 with fail
          have Sa5 := Lib.hid (SW2.put HR.out (Nat.le_trans hWA.out.1 HL.out.fr.size) T4.out 5 (.slice aA ab.length ac))
          have Fx : Hid (Fr [mb] v10 (v10.setCell ⟨mb, 5, none⟩ (.slice aA ab.length ac))) := Lib.hid ((Fr.refl [mb] v10).setCell (p := ⟨mb, 5, none⟩) (Or.inl (by simp)) _)
          generalize v10.setCell ⟨mb, 5, none⟩ (.slice aA ab.length ac) = v11 at *
          clear k4 g4 T4
          have Frr : Hid (Fr [r] wr v11) := Lib.hid Sa5.out.fr
          have L8 := Lib.hid (HL.out.read gCo Sa5.out.pd (Fr.more Frr.out (show r ∈ [r, sb] by simp)))
          have Bo8 := Lib.hid (HBo.out.kept Frr.out (by have := hWA.out.2.2.1; simpa using this.symm))
          have HBk : Hid (∀ o w9, Fr (blk A) (v11.alloc o) w9 → Box w9 sb 29 #[.string a, .slice gA gb.length gc, .slice wA wb.length wc, .slice kA kb.length kc, .slice oA ob.length oc, .slice fA fb.length fc, .slice A xs.length cap]) := Lib.hid (fun o w9 f => (Bo8.out.kept ((Fr.refl [] v11).alloc o) (by simp)).kept f (fun hx => by have a1 := L8.out.nw sb hx; have a2 := hFo.out sb (by simp); omega))
          have m0 : v11.cell? ⟨mb, 0, none⟩ = some (.int .i64 (k0 : Int)) := Sa5.out.bx.cell 0
          have m1 : v11.cell? ⟨mb, 1, none⟩ = some (.string t1) := Sa5.out.bx.cell 1
          have m2 : v11.cell? ⟨mb, 2, none⟩ = some (.string t2) := Sa5.out.bx.cell 2
          have m3 : v11.cell? ⟨mb, 3, none⟩ = some (.int .i64 (k3 : Int)) := Sa5.out.bx.cell 3
          have m4 : v11.cell? ⟨mb, 4, none⟩ = some (.string t4) := Sa5.out.bx.cell 4
          have m5 : v11.cell? ⟨mb, 5, none⟩ = some (.slice aA ab.length ac) := Sa5.out.bx.cell 5
          have e2 : v11.cell? ⟨sb, 6, none⟩ = some (.slice A xs.length cap) := Bo8.out.cell 6
          obtain ⟨i0, hi0, hz0, hz1, hz2⟩ := infp_co
          replace hi0 := Lib.hid hi0
          replace hz0 := Lib.hid hz0
          replace hz1 := Lib.hid hz1
          replace hz2 := Lib.hid hz2
          have Ty := Lib.hid (LL.kept gTx Tx.out Fx.out (fun y hy => by rw [List.mem_singleton] at hy; have := hmb.out; omega))
          have hOk : Hid (ECo.ok v11 (⟨⟨(k0 : Int), t1, t2, (k3 : Int), t4, ab⟩, aA, ac⟩ : MC)) := Lib.hid (⟨⟨s1.out, s2.out, s4.out, Ty.out.tl.rd, Nat.le_trans Ty.out.sg.le Ty.out.sg.max, Ty.out.sg.le, sL.out⟩, fun g hg => Ty.out.sg.lt g hg⟩)
          have hNw : Hid (∀ y ∈ ECo.bl (⟨⟨(k0 : Int), t1, t2, (k3 : Int), t4, ab⟩, aA, ac⟩ : MC), Wc.heap.size ≤ y ∧ y ∉ blk A) := Lib.hid (HL.out.new (l := blk aA) (fun y hy => Nat.le_trans hcr.out (Tw5.out y hy)))
          clear HL HBo Frr Sa5 Bo8 hq hq6
          go_wp2_with (at_builtin; refine wpList_row (us := [.int .i64 (k0 : Int), .string t1, .string t2, .int .i64 (k3 : Int), .string t4, .slice aA ab.length ac]) rfl _ _ _ rfl (L8.out.sg.alloc _) Try.underlying25 hi0.out hz0.out hz1.out hz2.out rfl rfl rfl rfl (row_cells _ _ [.int .i64 (k0 : Int), .string t1, .string t2, .int .i64 (k3 : Int), .string t4, .slice aA ab.length ac]) (gCo.one (⟨⟨(k0 : Int), t1, t2, (k3 : Int), t4, ab⟩, aA, ac⟩ : MC)) (by omega) (by omega) ?_; intro A3 cap3 w9 hs6 f6 hf6; have L9 := Lib.hid (L8.out.push HR.out gCo hWA.out.1 (b := (⟨⟨(k0 : Int), t1, t2, (k3 : Int), t4, ab⟩, aA, ac⟩ : MC)) hOk.out hNw.out hs6 f6 hf6); have B9 := Lib.hid (HBk.out _ _ f6); have c9 := B9.out.cell 6; have v9 := B9.out.free 6; clear hs6 f6 hf6)
          have hxl2 : (xs ++ [(⟨⟨(k0 : Int), t1, t2, (k3 : Int), t4, ab⟩, aA, ac⟩ : MC)]).length = xs.length + 1 := by simp
          have hRm : Hid (CT = ((xs ++ [(⟨⟨(k0 : Int), t1, t2, (k3 : Int), t4, ab⟩, aA, ac⟩ : MC)]).map MC.c ++ (goL (oneC m s) (nC - (k + 1)) q6 ee6).1, (goL (oneC m s) (nC - (k + 1)) q6 ee6).2)) := Lib.hid (by rw [List.map_append, List.map_singleton]; exact hRn.out)
          have fs : Fr [sb] w9 (w9.setCell ⟨sb, 6, none⟩ (.slice A3 (xs.length + 1) cap3)) := (Fr.refl [sb] w9).setCell (p := ⟨sb, 6, none⟩) (Or.inl (by simp)) _
          have L10 := Lib.hid (L9.out.read gCo (HR.out.kept L9.out.pd fs (fun y hy => by rw [List.mem_singleton] at hy; have := hWA.out.2.2.2; omega)) (Fr.more fs (show sb ∈ [r, sb] by simp)))
          have B10 := Lib.hid (B9.out.put 6 (.slice A3 (xs.length + 1) cap3))
          clear fs c9 v9 L9 B9 hRn
          generalize w9.setCell ⟨sb, 6, none⟩ (.slice A3 (xs.length + 1) cap3) = wz at *
          go_roundw
          case rel => exact ⟨k + 1, A3, cap3, xs ++ [(⟨⟨(k0 : Int), t1, t2, (k3 : Int), t4, ab⟩, aA, ac⟩ : MC)], q6, ee6, by omega, by go_num, by omega, L10, by rw [hxl2]; exact B10, hqn, hen, hRm⟩
          case measure => simp [intOf]; omega
        · have d2 : (eq == 0) = false := by simpa using h0
          have hRn := Lib.hid (go_stop (oneC m s) MC.c hq6.out h0 hRk.out)
          clear hq hq6 hRk h0
          go_wp2_with fail
          go_meet
          exact ⟨A, cap, xs, q, eq, hRn, HL, HBo⟩
      · obtain rfl : k = nC := by omega
        have d1 : decide ((k : Int) < (k : Int)) = false := decide_eq_false (by omega)
        have hRn := Lib.hid (go_done (oneC m s) MC.c hRk.out)
        clear hq hq6 hRk
        go_wp2_with fail
        go_meet
        exact ⟨A, cap, xs, q, eq, hRn, HL, HBo⟩
  obtain ⟨cA, cc, cb, q4, e4, hc, Lc, Bc⟩ := hcut
  rename World => wE
  obtain rfl : q4 = CT.2.1 := by rw [hc.out]
  obtain rfl : e4 = CT.2.2 := by rw [hc.out]
  have hcm : cb.map MC.c = CT.1 := by rw [hc.out]
  replace hcm := Lib.hid hcm
  have SwE : Hid (SW2 D [r] CT.2.1 CT.2.2 W3 29 sb #[.string a, .slice gA gb.length gc, .slice wA wb.length wc, .slice kA kb.length kc, .slice oA ob.length oc, .slice fA fb.length fc, .slice cA cb.length cc] wE) := Lib.hid ⟨Lc.out.pd, hfA.out.trans Lc.out.fr (fun y hy => Or.inl hy) (fun y hy => by
    have a2 := hLow.out
    simp only [List.mem_cons, List.not_mem_nil, or_false] at hy
    rcases hy with rfl | rfl
    · exact Or.inl (by simp)
    · exact Or.inr (by omega)), Bc.out, by have a2 := hLow.out; omega, fun y hy => by have a2 := hLow.out; rw [List.mem_singleton] at hy; omega⟩
  have Tg := Lib.hid (LL.kept gTx Tg.out Lc.out.fr (fun y hy => hLo.out y (by simp only [List.mem_cons, List.not_mem_nil, or_false] at hy; rcases hy with rfl | rfl <;> simp)))
  have Tw := Lib.hid (LL.kept gTx Tw.out Lc.out.fr (fun y hy => hLo.out y (by simp only [List.mem_cons, List.not_mem_nil, or_false] at hy; rcases hy with rfl | rfl <;> simp)))
  have Tk := Lib.hid (LL.kept gTx Tk.out Lc.out.fr (fun y hy => hLo.out y (by simp only [List.mem_cons, List.not_mem_nil, or_false] at hy; rcases hy with rfl | rfl <;> simp)))
  have To := Lib.hid (LL.kept gOb To.out Lc.out.fr (fun y hy => hLo.out y (by simp only [List.mem_cons, List.not_mem_nil, or_false] at hy; rcases hy with rfl | rfl <;> simp)))
  have Tf := Lib.hid (LL.kept gFn Tf.out Lc.out.fr (fun y hy => hLo.out y (by simp only [List.mem_cons, List.not_mem_nil, or_false] at hy; rcases hy with rfl | rfl <;> simp)))
  have Tc := Lib.hid (Lc.out.ll hWA.out.2.1)
  clear Lc Bc hc hfA hFo hWA
  obtain ⟨c0, c1, c2⟩ := HDc.out _ _ _ SwE.out.pd
  have KX := Lib.hid (HDn.out wE _ _ SwE.out.pd)
  rw [hEE.out] at KX
  go_wp2_with fail
  refine KX.out.mono ?_
  rintro e wx ⟨rfl, y4, f4⟩
  have Tg := Lib.hid (LL.kept gTx Tg.out f4 (fun y hy => hLo.out y (by rw [List.mem_singleton] at hy; subst hy; simp)))
  have Tw := Lib.hid (LL.kept gTx Tw.out f4 (fun y hy => hLo.out y (by rw [List.mem_singleton] at hy; subst hy; simp)))
  have Tk := Lib.hid (LL.kept gTx Tk.out f4 (fun y hy => hLo.out y (by rw [List.mem_singleton] at hy; subst hy; simp)))
  have To := Lib.hid (LL.kept gOb To.out f4 (fun y hy => hLo.out y (by rw [List.mem_singleton] at hy; subst hy; simp)))
  have Tf := Lib.hid (LL.kept gFn Tf.out f4 (fun y hy => hLo.out y (by rw [List.mem_singleton] at hy; subst hy; simp)))
  have Tc := Lib.hid (LL.kept gCo Tc.out f4 (fun y hy => hLo.out y (by rw [List.mem_singleton] at hy; subst hy; simp)))
  have S9 := Lib.hid (SwE.out.read y4 f4)
  clear y4 f4 KX SwE c0 c1 c2
  have B7 := Lib.hid (HB.out wx S9.out.fr)
  have x0 : wx.cell? ⟨sb, 0, none⟩ = some (.string a) := S9.out.bx.cell 0
  have x1 : wx.cell? ⟨sb, 1, none⟩ = some (.slice gA gb.length gc) := S9.out.bx.cell 1
  have x2 : wx.cell? ⟨sb, 2, none⟩ = some (.slice wA wb.length wc) := S9.out.bx.cell 2
  have x3 : wx.cell? ⟨sb, 3, none⟩ = some (.slice kA kb.length kc) := S9.out.bx.cell 3
  have x4 : wx.cell? ⟨sb, 4, none⟩ = some (.slice oA ob.length oc) := S9.out.bx.cell 4
  have x5 : wx.cell? ⟨sb, 5, none⟩ = some (.slice fA fb.length fc) := S9.out.bx.cell 5
  have x6 : wx.cell? ⟨sb, 6, none⟩ = some (.slice cA cb.length cc) := S9.out.bx.cell 6
  have z0 : wx.cell? ⟨bx, 0, none⟩ = some (.string ⟨#[]⟩) := B7.out.cell 0
  have v0 := B7.out.free 0
  have z1 : wx.cell? ⟨bx, 1, none⟩ = some (.slice none 0 0) := B7.out.cell 1
  have v1 := B7.out.free 1
  have z2 : wx.cell? ⟨bx, 2, none⟩ = some (.slice none 0 0) := B7.out.cell 2
  have v2 := B7.out.free 2
  have z3 : wx.cell? ⟨bx, 3, none⟩ = some (.slice none 0 0) := B7.out.cell 3
  have v3 := B7.out.free 3
  have z4 : wx.cell? ⟨bx, 4, none⟩ = some (.slice none 0 0) := B7.out.cell 4
  have v4 := B7.out.free 4
  have z5 : wx.cell? ⟨bx, 5, none⟩ = some (.slice none 0 0) := B7.out.cell 5
  have v5 := B7.out.free 5
  have z6 : wx.cell? ⟨bx, 6, none⟩ = some (.slice none 0 0) := B7.out.cell 6
  have v6 := B7.out.free 6
  have hBel : Below w.heap.size w wx := by rw [hbx.out]; exact HDb.out _ _ _ S9.out.pd
  have hbl : w.heap.size ≤ bx := by rw [hbx.out]; exact Nat.le_refl _
  by_cases hE : E = 0
  · subst hE
    obtain ⟨hB, hD, hF8⟩ := seven wx w bx _ _ _ _ _ _ _ _ (.string a) (.slice gA gb.length gc) (.slice wA wb.length wc) (.slice kA kb.length kc) (.slice oA ob.length oc) (.slice fA fb.length fc) (.slice cA cb.length cc) B7.out hBel hbl
    have HB8 := Lib.hid hB
    have HD8 := Lib.hid hD
    have HF8 := Lib.hid hF8
    have hV := Lib.hid (hSU.out rfl)
    clear hB hD hF8 hSU hSU0 HB hBel hbl
    go_wp2_with fail
    refine bodyPost_ret (results_cell_tmp rfl _ _ _ _ _ _ _ _ rfl rfl HB8.out uSm rfl (by kernel_rfl)) rfl ?_
    refine ⟨⟨a, gA, gc, gb, wA, wc, wb, kA, kc, kb, ⟨oA, oc, ob, fA, fc, fb, cA, cc, cb⟩⟩, rfl, ?_, ?_, HD8.out⟩
    · rw [hV.out]
      unfold MU.su MS.sys
      dsimp only
      have h1 := hg.out
      have h2 := hw.out
      have h3 := hk.out
      have h4 := hfm.out
      rw [List.map_id'] at h1 h2 h3 h4
      rw [hom.out, hcm.out, h1, h2, h3, h4]
    · exact sum_read a (LL.kept gTx Tg.out HF8.out (fun y hy => hLo.out y (by rw [List.mem_singleton] at hy; subst hy; simp))).tl (LL.kept gTx Tw.out HF8.out (fun y hy => hLo.out y (by rw [List.mem_singleton] at hy; subst hy; simp))).tl (LL.kept gTx Tk.out HF8.out (fun y hy => hLo.out y (by rw [List.mem_singleton] at hy; subst hy; simp))).tl (LL.kept gOb To.out HF8.out (fun y hy => hLo.out y (by rw [List.mem_singleton] at hy; subst hy; simp))) (LL.kept gFn Tf.out HF8.out (fun y hy => hLo.out y (by rw [List.mem_singleton] at hy; subst hy; simp))) (LL.kept gCo Tc.out HF8.out (fun y hy => hLo.out y (by rw [List.mem_singleton] at hy; subst hy; simp)))
  · have e0 : (E != 0) = true := by simpa using hE
    obtain ⟨hB, hD, hF8⟩ := seven wx w bx _ _ _ _ _ _ _ _ (.string ⟨#[]⟩) (.slice none 0 0) (.slice none 0 0) (.slice none 0 0) (.slice none 0 0) (.slice none 0 0) (.slice none 0 0) B7.out hBel hbl
    have HB8 := Lib.hid hB
    have HD8 := Lib.hid hD
    have hV := Lib.hid (hSU0.out hE)
    clear hB hD hF8 hSU hSU0 HB To Tf Tc Tg Tw Tk hE hBel hbl
    go_wp2_with fail
    refine bodyPost_ret (results_cell_tmp rfl _ _ _ _ _ _ _ _ rfl rfl HB8.out uSm rfl (by kernel_rfl)) rfl ?_
    refine ⟨⟨⟨#[]⟩, none, 0, [], none, 0, [], none, 0, [], ⟨none, 0, [], none, 0, [], none, 0, []⟩⟩, rfl, ?_, ?_, HD8.out⟩
    · rw [hV.out]; rfl
    · exact ⟨fun h => by simp at h, fun h => by simp at h, fun h => by simp at h, ⟨fun h => by simp at h, fun h => by simp at h, fun h => by simp at h, by simp, by simp, by simp, by simp, by simp, by simp⟩⟩
end Go.Proofs.Ytdmmkjijgoiecaa.re
