import Derived.Test.YtdmmkjijgoiecaaWRe2
set_option linter.all false
/-
  record: put itself, at both sinks (gen_re3.py).
-/
namespace Go.Proofs.Ytdmmkjijgoiecaa.re
open Go.RowKit Go.Shelf Go.Proofs.Ytdmmkjijgoiecaa.mem Go.Proofs.Ytdmmkjijgoiecaa.sy

set_option maxRecDepth 100000 in
set_option maxHeartbeats 4000000 in
theorem put_any_t {w0 : World} {g : Nat} {I : List Nat → List Ev → World → Prop} (S : Sink 121 122 g w0 I) {F : List Nat} {evs : List Ev} {w : World} (h : I F evs w) (u : MU) (hu : SumM w0 u) (hl : evs.length + (evSU u.su).length ≤ MX) :
    Calls Try.prog 23 #[.iface 66 (.pointer (some ⟨g, 0, none⟩)), u.val] w (SPost I F (evs ++ evSU u.su) w) := by
  obtain ⟨nm, gA, gc, gs, wA, wc, ws, kA, kc, ks, ⟨oA, oc, os, fA, fc, fs, cA, cc, cs⟩⟩ := u
  obtain ⟨hg, hw, hk, ho⟩ := hu
  have hoo := ho.o
  have hof := ho.f
  have hoc := ho.c
  have hok := ho.ok
  have hock := ho.ck
  unfold MU.val MU.row MU.su MS.sys at *
  dsimp only at *
  have e0 : evs ++ evSU ⟨nm, gs, ws, ks, ⟨os.map (·.o), fs, cs.map (·.c)⟩⟩ = ((((((evs ++ [Ev.t nm]) ++ evL gs) ++ evL ws) ++ evL ks) ++ evOs (os.map (·.o))) ++ evFs fs) ++ evCs (cs.map (·.c)) := by simp [evSU]
  have hl2 : (((((((evs ++ [Ev.t nm]) ++ evL gs) ++ evL ws) ++ evL ks) ++ evOs (os.map (·.o))) ++ evFs fs) ++ evCs (cs.map (·.c))).length ≤ MX := by rw [← e0, List.length_append]; exact hl
  rw [e0]
  simp only [List.length_append, List.length_cons, List.length_nil] at hl2
  clear hl e0 ho
  have hW := S.alloc (S.alloc h (.cells #[.iface 66 (.pointer (some ⟨g, 0, none⟩))] 104)) (.cells #[.string nm, .slice gA gs.length gc, .slice wA ws.length wc, .slice kA ks.length kc, .slice oA os.length oc, .slice fA fs.length fc, .slice cA cs.length cc] 29)
  have hn0 : w.heap.size ∉ F := fun hx => by have := S.lt h _ hx; omega
  have hz : (w.alloc (.cells #[.iface 66 (.pointer (some ⟨g, 0, none⟩))] 104)).heap.size = w.heap.size + 1 := Array.size_push _
  have B0 : Box ((w.alloc (.cells #[.iface 66 (.pointer (some ⟨g, 0, none⟩))] 104)).alloc (.cells #[.string nm, .slice gA gs.length gc, .slice wA ws.length wc, .slice kA ks.length kc, .slice oA os.length oc, .slice fA fs.length fc, .slice cA cs.length cc] 29)) w.heap.size 104 #[.iface 66 (.pointer (some ⟨g, 0, none⟩))] := (Box.new w _ _).kept ((Fr.refl [] _).alloc _) (by simp)
  have B1 := Box.new (w.alloc (.cells #[.iface 66 (.pointer (some ⟨g, 0, none⟩))] 104)) 29 #[.string nm, .slice gA gs.length gc, .slice wA ws.length wc, .slice kA ks.length kc, .slice oA os.length oc, .slice fA fs.length fc, .slice cA cs.length cc]
  rw [hz] at B1
  have hn1 : w.heap.size + 1 ∉ F := fun hx => by have := S.lt h _ hx; omega
  have S0 := Lib.hid S
  obtain ⟨W, hWe⟩ : ∃ W, Hid (W = (w.alloc (.cells #[.iface 66 (.pointer (some ⟨g, 0, none⟩))] 104)).alloc (.cells #[.string nm, .slice gA gs.length gc, .slice wA ws.length wc, .slice kA ks.length kc, .slice oA os.length oc, .slice fA fs.length fc, .slice cA cs.length cc] 29)) := ⟨_, Lib.hid rfl⟩
  have hfin : Hid (∀ F' e w', St I W F F' e w' → St I w F F' e w') := Lib.hid (by rw [hWe.out]; exact fun _ _ _ s => St.from_alloc (St.from_alloc s))
  rw [← hWe.out] at hW B0 B1
  have HN : Hid (∀ F' e w', St I W F F' e w' → w.heap.size ∉ F') := Lib.hid (fun _ _ _ s => s.nin hn0 B0.lt)
  have HB : Hid (∀ F' e w', St I W F F' e w' → Box w' w.heap.size 104 #[.iface 66 (.pointer (some ⟨g, 0, none⟩))] ∧ Box w' (w.heap.size + 1) 29 #[.string nm, .slice gA gs.length gc, .slice wA ws.length wc, .slice kA ks.length kc, .slice oA os.length oc, .slice fA fs.length fc, .slice cA cs.length cc]) := Lib.hid (fun _ _ _ s => ⟨s.box B0 hn0, s.box B1 hn1⟩)
  have T0 := Lib.hid (St.start hW)
  have Hg := Lib.hid hg
  have Hw := Lib.hid hw
  have Hk := Lib.hid hk
  have Ho := Lib.hid hoo
  have Hf := Lib.hid hof
  have Hc := Lib.hid hoc
  have Hok := Lib.hid hok
  have Hck := Lib.hid hock
  clear hW B0 B1 S h hg hw hk hoo hof hoc hok hock
  go_enter Try.func23, Try.ntmps23
  go_upto_region 1 with fail
  try rw [hz]
  rw [← hWe.out]
  clear hz
  generalize w.heap.size = bm at *
  have y0 : W.cell? ⟨bm, 0, none⟩ = some (.iface 66 (.pointer (some ⟨g, 0, none⟩))) := (HB.out _ _ _ T0.out).1.cell 0
  have y1 : W.cell? ⟨bm + 1, 0, none⟩ = some (.string nm) := (HB.out _ _ _ T0.out).2.cell 0
  have K1 := Lib.hid (S0.out.txt nm T0.out.i (by omega))
  go_wp2_with fail
  refine K1.out.mono ?_
  rintro e w1 ⟨rfl, F1, s1⟩
  have T1 := Lib.hid (T0.out.trans s1)
  clear s1 y0 y1 K1 T0
  go_upto_region 2 with fail
  go_cut [14] (fun _ wx => ∃ F', Hid (St I W F F' ((evs ++ [Ev.t nm]) ++ evL gs) wx))
  case first =>
    have y0 : w1.cell? ⟨bm, 0, none⟩ = some (.iface 66 (.pointer (some ⟨g, 0, none⟩))) := (HB.out _ _ _ T1.out).1.cell 0
    have y1 : w1.cell? ⟨bm + 1, 1, none⟩ = some (.slice gA gs.length gc) := (HB.out _ _ _ T1.out).2.cell 1
    have Td := Lib.hid (St.drew S0.out T1.out)
    have y0d : w1.drew.cell? ⟨bm, 0, none⟩ = some (.iface 66 (.pointer (some ⟨g, 0, none⟩))) := y0
    have y1d : w1.drew.cell? ⟨bm + 1, 1, none⟩ = some (.slice gA gs.length gc) := y1
    have K := Lib.hid (puts_str_t S0.out Td.out.i gA gc gs Hg.out (by simp only [List.length_append, List.length_cons, List.length_nil]; omega))
    go_region_with ((go_at_call 47; refine K.out.mono ?_; rintro e w2 ⟨rfl, F2, s2⟩; have T2 := Lib.hid (Td.out.trans s2); clear s2))
    all_goals (go_wp2_with fail; go_meet; exact ⟨F2, T2⟩)
  obtain ⟨F2, T2⟩ := hcut
  rename World => w2
  clear T1
  go_upto_region 3 with fail
  go_cut [21] (fun _ wx => ∃ F', Hid (St I W F F' (((evs ++ [Ev.t nm]) ++ evL gs) ++ evL ws) wx))
  case first =>
    have y0 : w2.cell? ⟨bm, 0, none⟩ = some (.iface 66 (.pointer (some ⟨g, 0, none⟩))) := (HB.out _ _ _ T2.out).1.cell 0
    have y1 : w2.cell? ⟨bm + 1, 2, none⟩ = some (.slice wA ws.length wc) := (HB.out _ _ _ T2.out).2.cell 2
    have Td := Lib.hid (St.drew S0.out T2.out)
    have y0d : w2.drew.cell? ⟨bm, 0, none⟩ = some (.iface 66 (.pointer (some ⟨g, 0, none⟩))) := y0
    have y1d : w2.drew.cell? ⟨bm + 1, 2, none⟩ = some (.slice wA ws.length wc) := y1
    have K := Lib.hid (puts_str_t S0.out Td.out.i wA wc ws Hw.out (by simp only [List.length_append, List.length_cons, List.length_nil]; omega))
    go_region_with ((go_at_call 47; refine K.out.mono ?_; rintro e w3 ⟨rfl, F3, s3⟩; have T3 := Lib.hid (Td.out.trans s3); clear s3))
    all_goals (go_wp2_with fail; go_meet; exact ⟨F3, T3⟩)
  obtain ⟨F3, T3⟩ := hcut
  rename World => w3
  clear T2
  go_upto_region 4 with fail
  go_cut [28] (fun _ wx => ∃ F', Hid (St I W F F' ((((evs ++ [Ev.t nm]) ++ evL gs) ++ evL ws) ++ evL ks) wx))
  case first =>
    have y0 : w3.cell? ⟨bm, 0, none⟩ = some (.iface 66 (.pointer (some ⟨g, 0, none⟩))) := (HB.out _ _ _ T3.out).1.cell 0
    have y1 : w3.cell? ⟨bm + 1, 3, none⟩ = some (.slice kA ks.length kc) := (HB.out _ _ _ T3.out).2.cell 3
    have Td := Lib.hid (St.drew S0.out T3.out)
    have y0d : w3.drew.cell? ⟨bm, 0, none⟩ = some (.iface 66 (.pointer (some ⟨g, 0, none⟩))) := y0
    have y1d : w3.drew.cell? ⟨bm + 1, 3, none⟩ = some (.slice kA ks.length kc) := y1
    have K := Lib.hid (puts_str_t S0.out Td.out.i kA kc ks Hk.out (by simp only [List.length_append, List.length_cons, List.length_nil]; omega))
    go_region_with ((go_at_call 47; refine K.out.mono ?_; rintro e w4 ⟨rfl, F4, s4⟩; have T4 := Lib.hid (Td.out.trans s4); clear s4))
    all_goals (go_wp2_with fail; go_meet; exact ⟨F4, T4⟩)
  obtain ⟨F4, T4⟩ := hcut
  rename World => w4
  clear T3
  have y0 : w4.cell? ⟨bm, 0, none⟩ = some (.iface 66 (.pointer (some ⟨g, 0, none⟩))) := (HB.out _ _ _ T4.out).1.cell 0
  have y1 : w4.cell? ⟨bm + 1, 4, none⟩ = some (.slice oA os.length oc) := (HB.out _ _ _ T4.out).2.cell 4
  have K := Lib.hid (puts_obj_t S0.out T4.out.i oA oc os Ho.out bm (HB.out _ _ _ T4.out).1 (HN.out _ _ _ T4.out) Hok.out (by simp only [List.length_append, List.length_cons, List.length_nil]; omega))
  go_wp2_with fail
  refine K.out.mono ?_
  rintro e w5 ⟨rfl, F5, s5⟩
  have T5 := Lib.hid (T4.out.trans s5)
  clear s5 y0 y1 K T4
  have y0 : w5.cell? ⟨bm, 0, none⟩ = some (.iface 66 (.pointer (some ⟨g, 0, none⟩))) := (HB.out _ _ _ T5.out).1.cell 0
  have y1 : w5.cell? ⟨bm + 1, 5, none⟩ = some (.slice fA fs.length fc) := (HB.out _ _ _ T5.out).2.cell 5
  have K := Lib.hid (puts_fn_t S0.out T5.out.i fA fc fs Hf.out bm (HB.out _ _ _ T5.out).1 (HN.out _ _ _ T5.out) (by simp only [List.length_append, List.length_cons, List.length_nil]; omega))
  go_wp2_with fail
  refine K.out.mono ?_
  rintro e w6 ⟨rfl, F6, s6⟩
  have T6 := Lib.hid (T5.out.trans s6)
  clear s6 y0 y1 K T5
  have y0 : w6.cell? ⟨bm, 0, none⟩ = some (.iface 66 (.pointer (some ⟨g, 0, none⟩))) := (HB.out _ _ _ T6.out).1.cell 0
  have y1 : w6.cell? ⟨bm + 1, 6, none⟩ = some (.slice cA cs.length cc) := (HB.out _ _ _ T6.out).2.cell 6
  have K := Lib.hid (puts_con_t S0.out T6.out.i cA cc cs Hc.out bm (HB.out _ _ _ T6.out).1 (HN.out _ _ _ T6.out) Hck.out (by simp only [List.length_append, List.length_cons, List.length_nil]; omega))
  go_wp2_with fail
  refine K.out.mono ?_
  rintro e w7 ⟨rfl, F7, s7⟩
  have T7 := Lib.hid (T6.out.trans s7)
  clear s7 y0 y1 K T6
  go_wp2_with fail
  go_end0
  exact ⟨rfl, F7, hfin.out _ _ _ T7.out⟩

end Go.Proofs.Ytdmmkjijgoiecaa.re
