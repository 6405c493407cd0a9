import Derived.Test.YtdmmkjijgoiecaaWRe1
set_option linter.all false
/-
  record: a summary put: constraints; put itself, at both sinks (gen_re2.py).
-/
namespace Go.Proofs.Ytdmmkjijgoiecaa.re
open Go.RowKit Go.Shelf Go.Proofs.Ytdmmkjijgoiecaa.mem Go.Proofs.Ytdmmkjijgoiecaa.sy

set_option maxRecDepth 100000 in
set_option maxHeartbeats 2000000 in
theorem put_con_w {w0 : World} {g : Nat} {I : List Nat → List Ev → World → Prop} (S : Sink 114 115 g w0 I) {F : List Nat} {evs : List Ev} {w : World} (h : I F evs w) (o : SC) (aA : Option Addr) (ac : Nat) (hr : Rd w0 aA (o.args.map Value.string)) (c : Nat) (hb : Box w c 104 #[.iface 54 (.pointer (some ⟨g, 0, none⟩))]) (hc : c ∉ F) (hl : evs.length + (evC o).length ≤ MX) :
    Calls Try.prog 55 #[.agg #[.int .i64 o.op, .string o.a, .string o.b, .int .i64 o.k, .string o.tag, .slice aA o.args.length ac], .pointer (some ⟨c, 0, none⟩)] w (SPost I F (evs ++ evC o) w) := by
  have e0 : evs ++ evC o = ((((((evs ++ [Ev.n o.op]) ++ [Ev.t o.a]) ++ [Ev.t o.b]) ++ [Ev.n o.k]) ++ [Ev.t o.tag]) ++ evL o.args) := by simp [evM, evO, evF, evC]
  have hl2 : ((((((evs ++ [Ev.n o.op]) ++ [Ev.t o.a]) ++ [Ev.t o.b]) ++ [Ev.n o.k]) ++ [Ev.t o.tag]) ++ evL o.args).length ≤ MX := by rw [← e0, List.length_append]; exact hl
  rw [e0]
  have hW := S.alloc h (.cells #[.int .i64 o.op, .string o.a, .string o.b, .int .i64 o.k, .string o.tag, .slice aA o.args.length ac] 84)
  have B1 := Box.new w 84 #[.int .i64 o.op, .string o.a, .string o.b, .int .i64 o.k, .string o.tag, .slice aA o.args.length ac]
  have hn1 : w.heap.size ∉ F := fun hx => by have := S.lt h _ hx; omega
  have B0 : Box (w.alloc (.cells #[.int .i64 o.op, .string o.a, .string o.b, .int .i64 o.k, .string o.tag, .slice aA o.args.length ac] 84)) c 104 #[.iface 54 (.pointer (some ⟨g, 0, none⟩))] := hb.kept ((Fr.refl [] w).alloc _) (by simp)
  have S0 := Lib.hid S
  obtain ⟨W, hWe⟩ : ∃ W, Hid (W = w.alloc (.cells #[.int .i64 o.op, .string o.a, .string o.b, .int .i64 o.k, .string o.tag, .slice aA o.args.length ac] 84)) := ⟨_, Lib.hid rfl⟩
  have hfin : Hid (∀ F' e w', St I W F F' e w' → St I w F F' e w') := Lib.hid (by rw [hWe.out]; exact fun _ _ _ => St.from_alloc)
  rw [← hWe.out] at hW B0 B1
  have HN : Hid (∀ F' e w', St I W F F' e w' → c ∉ F') := Lib.hid (fun _ _ _ s => s.nin hc B0.lt)
  have HB : Hid (∀ F' e w', St I W F F' e w' → Box w' c 104 #[.iface 54 (.pointer (some ⟨g, 0, none⟩))] ∧ Box w' w.heap.size 84 #[.int .i64 o.op, .string o.a, .string o.b, .int .i64 o.k, .string o.tag, .slice aA o.args.length ac]) := Lib.hid (fun _ _ _ s => ⟨s.box B0 hc, s.box B1 hn1⟩)
  have T0 := Lib.hid (St.start hW)
  have E0 := Lib.hid e0
  clear hW B0 B1 S h hb e0
  go_enter Try.func55, Try.ntmps55
  go_upto_region 1 with fail
  rw [← hWe.out]
  generalize w.heap.size = bm at *
  have y0 : W.cell? ⟨c, 0, none⟩ = some (.iface 54 (.pointer (some ⟨g, 0, none⟩))) := (HB.out _ _ _ T0.out).1.cell 0
  have y1 : W.cell? ⟨bm, 0, none⟩ = some (.int .i64 o.op) := (HB.out _ _ _ T0.out).2.cell 0
  have K1 := Lib.hid (S0.out.num o.op T0.out.i (by clear E0; simp only [List.length_append, List.length_cons, List.length_nil] at hl2 ⊢; omega))
  go_wp2_with fail
  refine K1.out.mono ?_
  rintro e w1 ⟨rfl, F1, s1⟩
  have T1 := Lib.hid (T0.out.trans s1)
  clear s1 y0 y1 K1 T0
  have y0 : w1.cell? ⟨c, 0, none⟩ = some (.iface 54 (.pointer (some ⟨g, 0, none⟩))) := (HB.out _ _ _ T1.out).1.cell 0
  have y1 : w1.cell? ⟨bm, 1, none⟩ = some (.string o.a) := (HB.out _ _ _ T1.out).2.cell 1
  have K2 := Lib.hid (S0.out.txt o.a T1.out.i (by clear E0; simp only [List.length_append, List.length_cons, List.length_nil] at hl2 ⊢; omega))
  go_wp2_with fail
  refine K2.out.mono ?_
  rintro e w2 ⟨rfl, F2, s2⟩
  have T2 := Lib.hid (T1.out.trans s2)
  clear s2 y0 y1 K2 T1
  have y0 : w2.cell? ⟨c, 0, none⟩ = some (.iface 54 (.pointer (some ⟨g, 0, none⟩))) := (HB.out _ _ _ T2.out).1.cell 0
  have y1 : w2.cell? ⟨bm, 2, none⟩ = some (.string o.b) := (HB.out _ _ _ T2.out).2.cell 2
  have K3 := Lib.hid (S0.out.txt o.b T2.out.i (by clear E0; simp only [List.length_append, List.length_cons, List.length_nil] at hl2 ⊢; omega))
  go_wp2_with fail
  refine K3.out.mono ?_
  rintro e w3 ⟨rfl, F3, s3⟩
  have T3 := Lib.hid (T2.out.trans s3)
  clear s3 y0 y1 K3 T2
  have y0 : w3.cell? ⟨c, 0, none⟩ = some (.iface 54 (.pointer (some ⟨g, 0, none⟩))) := (HB.out _ _ _ T3.out).1.cell 0
  have y1 : w3.cell? ⟨bm, 3, none⟩ = some (.int .i64 o.k) := (HB.out _ _ _ T3.out).2.cell 3
  have K4 := Lib.hid (S0.out.num o.k T3.out.i (by clear E0; simp only [List.length_append, List.length_cons, List.length_nil] at hl2 ⊢; omega))
  go_wp2_with fail
  refine K4.out.mono ?_
  rintro e w4 ⟨rfl, F4, s4⟩
  have T4 := Lib.hid (T3.out.trans s4)
  clear s4 y0 y1 K4 T3
  have y0 : w4.cell? ⟨c, 0, none⟩ = some (.iface 54 (.pointer (some ⟨g, 0, none⟩))) := (HB.out _ _ _ T4.out).1.cell 0
  have y1 : w4.cell? ⟨bm, 4, none⟩ = some (.string o.tag) := (HB.out _ _ _ T4.out).2.cell 4
  have K5 := Lib.hid (S0.out.txt o.tag T4.out.i (by clear E0; simp only [List.length_append, List.length_cons, List.length_nil] at hl2 ⊢; omega))
  go_wp2_with fail
  refine K5.out.mono ?_
  rintro e w5 ⟨rfl, F5, s5⟩
  have T5 := Lib.hid (T4.out.trans s5)
  clear s5 y0 y1 K5 T4
  have y0 : w5.cell? ⟨c, 0, none⟩ = some (.iface 54 (.pointer (some ⟨g, 0, none⟩))) := (HB.out _ _ _ T5.out).1.cell 0
  have y1 : w5.cell? ⟨bm, 5, none⟩ = some (.slice aA o.args.length ac) := (HB.out _ _ _ T5.out).2.cell 5
  have Td := Lib.hid (St.drew S0.out T5.out)
  have y0d : w5.drew.cell? ⟨c, 0, none⟩ = some (.iface 54 (.pointer (some ⟨g, 0, none⟩))) := y0
  have y1d : w5.drew.cell? ⟨bm, 5, none⟩ = some (.slice aA o.args.length ac) := y1
  have K6 := Lib.hid (puts_str_w S0.out Td.out.i aA ac o.args hr (by clear E0; simp only [List.length_append, List.length_cons, List.length_nil] at hl2 ⊢; omega))
  go_wp2_with fail
  go_region_with ((go_at_call 47; refine K6.out.mono ?_; rintro e w6 ⟨rfl, F6, s6⟩; have T6 := Lib.hid (Td.out.trans s6); clear s6))
  all_goals go_wp2_with fail
  all_goals go_end0
  all_goals exact ⟨rfl, F6, hfin.out _ _ _ T6.out⟩

set_option maxRecDepth 100000 in
theorem puts_con_w {w0 : World} {g : Nat} {I : List Nat → List Ev → World → Prop} (S : Sink 114 115 g w0 I) {F : List Nat} {evs : List Ev} {w : World} (h : I F evs w) (A : Option Addr) (ac : Nat) (l : List MC) (hr : Tbl w0 A 6 (l.map MC.row)) (c : Nat) (hb : Box w c 104 #[.iface 54 (.pointer (some ⟨g, 0, none⟩))]) (hc : c ∉ F) (hxs : ∀ x ∈ l, COk w0 x) (hl0 : evs.length + (evCs (l.map (·.c))).length ≤ MX) :
    Calls Try.prog 54 #[.iface 54 (.pointer (some ⟨g, 0, none⟩)), .slice A l.length ac, .func (.func 55) #[] #[.pointer (some ⟨c, 0, none⟩)]] w (SPost I F (evs ++ evCs (l.map (·.c))) w) := by
  have hl1 : evs.length + (l.flatMap (fun x => evC x.c)).length + 1 ≤ MX := by simpa [evMs, evOs, evFs, evCs, Nat.add_assoc, List.flatMap_map] using hl0
  have hm : l.length ≤ 20000000 := by
    have e1 : l.length ≤ (l.flatMap (fun x => evC x.c)).length := flat_ge _ (fun x => by simp [evM, evO, evF, evC]) l
    unfold MX at hl1
    omega
  have KN := Lib.hid (S.num (l.length : Int) h (by omega))
  have S0 := Lib.hid S
  have HR := Lib.hid hr
  have HB := Lib.hid (fun F' e w' (s : St I w F F' e w') => s.box hb hc)
  have HN := Lib.hid (fun F' e w' (s : St I w F F' e w') => s.nin hc hb.lt)
  obtain ⟨n, hn⟩ : ∃ n, Hid (n = l.length) := ⟨_, Lib.hid rfl⟩
  rw [← hn.out] at KN hm ⊢
  clear S hr h hl0 hb hc
  go_enter Try.func54, Try.ntmps54
  go_wp2_with fail
  refine KN.out.mono ?_
  rintro e w1 ⟨rfl, F1, s1⟩
  have S1 : Hid (St I w F F1 (evs ++ (Ev.n n :: (l.take 0).flatMap (fun x => evC x.c))) w1) := Lib.hid s1
  clear s1 KN
  go_wp2_with fail
  go_loopw [7, 14] (fun a i wr => ∃ (k : Nat) (F' : List Nat), k ≤ n ∧ i = .int .i64 k ∧ Hid (St I w F F' (evs ++ (Ev.n n :: (l.take k).flatMap (fun x => evC x.c))) wr)) (fun _ i _ => n - (intOf i).toNat)
  case atStart => exact ⟨0, F1, by omega, rfl, S1⟩
  case round =>
    obtain ⟨k, Fk, hk, rfl, hok⟩ := hrel
    clear S1
    by_cases hkl : k < n
    · have d1 : decide ((k : Int) < (n : Int)) = true := decide_eq_true (by omega)
      have hkx : k < l.length := by rw [← hn.out]; exact hkl
      obtain ⟨b, off, rfl, hlt, c0, c1, c2, c3, c4, c5⟩ := tbl_con HR.out hkx
      replace HB := HB.out _ _ _ hok.out
      replace HN := HN.out _ _ _ hok.out
      have hlk : (evs ++ (Ev.n n :: (l.take k).flatMap (fun x => evC x.c))).length + (evC l[k].c).length ≤ MX := by
        have := flat_at (fun x => evC x.c) l k hkx
        rw [List.length_append, List.length_cons]
        try dsimp only at this
        omega
      have hnx : Hid (evs ++ (Ev.n n :: (l.take k).flatMap (fun x => evC x.c)) ++ evC l[k].c = evs ++ (Ev.n n :: (l.take (k + 1)).flatMap (fun x => evC x.c))) := Lib.hid (by rw [flat_next _ _ _ hkx]; simp only [List.append_assoc, List.cons_append])
      have hx0 := hxs l[k] (List.getElem_mem hkx)
      replace c0 := S0.out.cell hok.out.i (show b < w0.heap.size from hlt) c0
      replace c1 := S0.out.cell hok.out.i (show b < w0.heap.size from hlt) c1
      replace c2 := S0.out.cell hok.out.i (show b < w0.heap.size from hlt) c2
      replace c3 := S0.out.cell hok.out.i (show b < w0.heap.size from hlt) c3
      replace c4 := S0.out.cell hok.out.i (show b < w0.heap.size from hlt) c4
      replace c5 := S0.out.cell hok.out.i (show b < w0.heap.size from hlt) c5
      clear hlt
      generalize l[k] = x at *
      obtain ⟨⟨xo, xa, xb, xk, xt, xg⟩, xA, xc⟩ := x
      dsimp only at *
      obtain ⟨W, hWe⟩ : ∃ W, Hid (W = wr.alloc (.cells #[.int .i64 xo, .string xa, .string xb, .int .i64 xk, .string xt, .slice xA xg.length xc] 84)) := ⟨_, Lib.hid rfl⟩
      have BW : Box W wr.heap.size 84 #[.int .i64 xo, .string xa, .string xb, .int .i64 xk, .string xt, .slice xA xg.length xc] := by rw [hWe.out]; exact Box.new _ _ _
      have hfr : Hid (∀ F' e w', St I W Fk F' e w' → St I wr Fk F' e w') := Lib.hid (by rw [hWe.out]; exact fun _ _ _ => St.from_alloc)
      have HIW : I Fk (evs ++ (Ev.n n :: (l.take k).flatMap (fun x => evC x.c))) W := by rw [hWe.out]; exact S0.out.alloc hok.out.i _
      have HBW : Box W c 104 #[.iface 54 (.pointer (some ⟨g, 0, none⟩))] := by rw [hWe.out]; exact HB.kept ((Fr.refl [] _).alloc _) (by simp)
      have KT := put_con_w S0.out HIW ⟨xo, xa, xb, xk, xt, xg⟩ xA xc hx0.g c HBW HN hlk
      rw [hnx.out] at KT
      replace KT := Lib.hid KT
      clear hnx HIW HBW HB
      go_upto_region 4 with fail
      rw [← hWe.out]
      generalize wr.heap.size = bm at *
      have z0 : W.cell? ⟨bm, 0, none⟩ = _ := BW.cell 0
      have z1 : W.cell? ⟨bm, 1, none⟩ = _ := BW.cell 1
      have z2 : W.cell? ⟨bm, 2, none⟩ = _ := BW.cell 2
      have z3 : W.cell? ⟨bm, 3, none⟩ = _ := BW.cell 3
      have z4 : W.cell? ⟨bm, 4, none⟩ = _ := BW.cell 4
      have z5 : W.cell? ⟨bm, 5, none⟩ = _ := BW.cell 5
      go_wp2_with fail
      refine KT.out.mono ?_
      rintro e w2 ⟨rfl, F2, s2⟩
      have S2 := Lib.hid (hok.out.trans (hfr.out _ _ _ s2))
      clear s2 KT hok
      go_wp2_with fail
      go_roundw
      case rel => exact ⟨k + 1, F2, by omega, by go_num, S2⟩
      case measure => simp [intOf]; omega
    · obtain rfl : k = n := by omega
      have d1 : decide ((k : Int) < (k : Int)) = false := decide_eq_false (by omega)
      have e1 : Hid (Ev.n k :: (l.take k).flatMap (fun x => evC x.c) = evCs (l.map (·.c))) := Lib.hid (by rw [hn.out, List.take_length]; simp only [evMs, evOs, evFs, evCs, List.flatMap_map, List.length_map])
      rw [e1.out] at hok
      go_wp2_with fail
      go_end0
      exact ⟨rfl, Fk, hok.out⟩

set_option maxRecDepth 100000 in
set_option maxHeartbeats 2000000 in
theorem put_con_t {w0 : World} {g : Nat} {I : List Nat → List Ev → World → Prop} (S : Sink 121 122 g w0 I) {F : List Nat} {evs : List Ev} {w : World} (h : I F evs w) (o : SC) (aA : Option Addr) (ac : Nat) (hr : Rd w0 aA (o.args.map Value.string)) (c : Nat) (hb : Box w c 104 #[.iface 66 (.pointer (some ⟨g, 0, none⟩))]) (hc : c ∉ F) (hl : evs.length + (evC o).length ≤ MX) :
    Calls Try.prog 55 #[.agg #[.int .i64 o.op, .string o.a, .string o.b, .int .i64 o.k, .string o.tag, .slice aA o.args.length ac], .pointer (some ⟨c, 0, none⟩)] w (SPost I F (evs ++ evC o) w) := by
  have e0 : evs ++ evC o = ((((((evs ++ [Ev.n o.op]) ++ [Ev.t o.a]) ++ [Ev.t o.b]) ++ [Ev.n o.k]) ++ [Ev.t o.tag]) ++ evL o.args) := by simp [evM, evO, evF, evC]
  have hl2 : ((((((evs ++ [Ev.n o.op]) ++ [Ev.t o.a]) ++ [Ev.t o.b]) ++ [Ev.n o.k]) ++ [Ev.t o.tag]) ++ evL o.args).length ≤ MX := by rw [← e0, List.length_append]; exact hl
  rw [e0]
  have hW := S.alloc h (.cells #[.int .i64 o.op, .string o.a, .string o.b, .int .i64 o.k, .string o.tag, .slice aA o.args.length ac] 84)
  have B1 := Box.new w 84 #[.int .i64 o.op, .string o.a, .string o.b, .int .i64 o.k, .string o.tag, .slice aA o.args.length ac]
  have hn1 : w.heap.size ∉ F := fun hx => by have := S.lt h _ hx; omega
  have B0 : Box (w.alloc (.cells #[.int .i64 o.op, .string o.a, .string o.b, .int .i64 o.k, .string o.tag, .slice aA o.args.length ac] 84)) c 104 #[.iface 66 (.pointer (some ⟨g, 0, none⟩))] := hb.kept ((Fr.refl [] w).alloc _) (by simp)
  have S0 := Lib.hid S
  obtain ⟨W, hWe⟩ : ∃ W, Hid (W = w.alloc (.cells #[.int .i64 o.op, .string o.a, .string o.b, .int .i64 o.k, .string o.tag, .slice aA o.args.length ac] 84)) := ⟨_, Lib.hid rfl⟩
  have hfin : Hid (∀ F' e w', St I W F F' e w' → St I w F F' e w') := Lib.hid (by rw [hWe.out]; exact fun _ _ _ => St.from_alloc)
  rw [← hWe.out] at hW B0 B1
  have HN : Hid (∀ F' e w', St I W F F' e w' → c ∉ F') := Lib.hid (fun _ _ _ s => s.nin hc B0.lt)
  have HB : Hid (∀ F' e w', St I W F F' e w' → Box w' c 104 #[.iface 66 (.pointer (some ⟨g, 0, none⟩))] ∧ Box w' w.heap.size 84 #[.int .i64 o.op, .string o.a, .string o.b, .int .i64 o.k, .string o.tag, .slice aA o.args.length ac]) := Lib.hid (fun _ _ _ s => ⟨s.box B0 hc, s.box B1 hn1⟩)
  have T0 := Lib.hid (St.start hW)
  have E0 := Lib.hid e0
  clear hW B0 B1 S h hb e0
  go_enter Try.func55, Try.ntmps55
  go_upto_region 1 with fail
  rw [← hWe.out]
  generalize w.heap.size = bm at *
  have y0 : W.cell? ⟨c, 0, none⟩ = some (.iface 66 (.pointer (some ⟨g, 0, none⟩))) := (HB.out _ _ _ T0.out).1.cell 0
  have y1 : W.cell? ⟨bm, 0, none⟩ = some (.int .i64 o.op) := (HB.out _ _ _ T0.out).2.cell 0
  have K1 := Lib.hid (S0.out.num o.op T0.out.i (by clear E0; simp only [List.length_append, List.length_cons, List.length_nil] at hl2 ⊢; omega))
  go_wp2_with fail
  refine K1.out.mono ?_
  rintro e w1 ⟨rfl, F1, s1⟩
  have T1 := Lib.hid (T0.out.trans s1)
  clear s1 y0 y1 K1 T0
  have y0 : w1.cell? ⟨c, 0, none⟩ = some (.iface 66 (.pointer (some ⟨g, 0, none⟩))) := (HB.out _ _ _ T1.out).1.cell 0
  have y1 : w1.cell? ⟨bm, 1, none⟩ = some (.string o.a) := (HB.out _ _ _ T1.out).2.cell 1
  have K2 := Lib.hid (S0.out.txt o.a T1.out.i (by clear E0; simp only [List.length_append, List.length_cons, List.length_nil] at hl2 ⊢; omega))
  go_wp2_with fail
  refine K2.out.mono ?_
  rintro e w2 ⟨rfl, F2, s2⟩
  have T2 := Lib.hid (T1.out.trans s2)
  clear s2 y0 y1 K2 T1
  have y0 : w2.cell? ⟨c, 0, none⟩ = some (.iface 66 (.pointer (some ⟨g, 0, none⟩))) := (HB.out _ _ _ T2.out).1.cell 0
  have y1 : w2.cell? ⟨bm, 2, none⟩ = some (.string o.b) := (HB.out _ _ _ T2.out).2.cell 2
  have K3 := Lib.hid (S0.out.txt o.b T2.out.i (by clear E0; simp only [List.length_append, List.length_cons, List.length_nil] at hl2 ⊢; omega))
  go_wp2_with fail
  refine K3.out.mono ?_
  rintro e w3 ⟨rfl, F3, s3⟩
  have T3 := Lib.hid (T2.out.trans s3)
  clear s3 y0 y1 K3 T2
  have y0 : w3.cell? ⟨c, 0, none⟩ = some (.iface 66 (.pointer (some ⟨g, 0, none⟩))) := (HB.out _ _ _ T3.out).1.cell 0
  have y1 : w3.cell? ⟨bm, 3, none⟩ = some (.int .i64 o.k) := (HB.out _ _ _ T3.out).2.cell 3
  have K4 := Lib.hid (S0.out.num o.k T3.out.i (by clear E0; simp only [List.length_append, List.length_cons, List.length_nil] at hl2 ⊢; omega))
  go_wp2_with fail
  refine K4.out.mono ?_
  rintro e w4 ⟨rfl, F4, s4⟩
  have T4 := Lib.hid (T3.out.trans s4)
  clear s4 y0 y1 K4 T3
  have y0 : w4.cell? ⟨c, 0, none⟩ = some (.iface 66 (.pointer (some ⟨g, 0, none⟩))) := (HB.out _ _ _ T4.out).1.cell 0
  have y1 : w4.cell? ⟨bm, 4, none⟩ = some (.string o.tag) := (HB.out _ _ _ T4.out).2.cell 4
  have K5 := Lib.hid (S0.out.txt o.tag T4.out.i (by clear E0; simp only [List.length_append, List.length_cons, List.length_nil] at hl2 ⊢; omega))
  go_wp2_with fail
  refine K5.out.mono ?_
  rintro e w5 ⟨rfl, F5, s5⟩
  have T5 := Lib.hid (T4.out.trans s5)
  clear s5 y0 y1 K5 T4
  have y0 : w5.cell? ⟨c, 0, none⟩ = some (.iface 66 (.pointer (some ⟨g, 0, none⟩))) := (HB.out _ _ _ T5.out).1.cell 0
  have y1 : w5.cell? ⟨bm, 5, none⟩ = some (.slice aA o.args.length ac) := (HB.out _ _ _ T5.out).2.cell 5
  have Td := Lib.hid (St.drew S0.out T5.out)
  have y0d : w5.drew.cell? ⟨c, 0, none⟩ = some (.iface 66 (.pointer (some ⟨g, 0, none⟩))) := y0
  have y1d : w5.drew.cell? ⟨bm, 5, none⟩ = some (.slice aA o.args.length ac) := y1
  have K6 := Lib.hid (puts_str_t S0.out Td.out.i aA ac o.args hr (by clear E0; simp only [List.length_append, List.length_cons, List.length_nil] at hl2 ⊢; omega))
  go_wp2_with fail
  go_region_with ((go_at_call 47; refine K6.out.mono ?_; rintro e w6 ⟨rfl, F6, s6⟩; have T6 := Lib.hid (Td.out.trans s6); clear s6))
  all_goals go_wp2_with fail
  all_goals go_end0
  all_goals exact ⟨rfl, F6, hfin.out _ _ _ T6.out⟩

set_option maxRecDepth 100000 in
theorem puts_con_t {w0 : World} {g : Nat} {I : List Nat → List Ev → World → Prop} (S : Sink 121 122 g w0 I) {F : List Nat} {evs : List Ev} {w : World} (h : I F evs w) (A : Option Addr) (ac : Nat) (l : List MC) (hr : Tbl w0 A 6 (l.map MC.row)) (c : Nat) (hb : Box w c 104 #[.iface 66 (.pointer (some ⟨g, 0, none⟩))]) (hc : c ∉ F) (hxs : ∀ x ∈ l, COk w0 x) (hl0 : evs.length + (evCs (l.map (·.c))).length ≤ MX) :
    Calls Try.prog 54 #[.iface 66 (.pointer (some ⟨g, 0, none⟩)), .slice A l.length ac, .func (.func 55) #[] #[.pointer (some ⟨c, 0, none⟩)]] w (SPost I F (evs ++ evCs (l.map (·.c))) w) := by
  have hl1 : evs.length + (l.flatMap (fun x => evC x.c)).length + 1 ≤ MX := by simpa [evMs, evOs, evFs, evCs, Nat.add_assoc, List.flatMap_map] using hl0
  have hm : l.length ≤ 20000000 := by
    have e1 : l.length ≤ (l.flatMap (fun x => evC x.c)).length := flat_ge _ (fun x => by simp [evM, evO, evF, evC]) l
    unfold MX at hl1
    omega
  have KN := Lib.hid (S.num (l.length : Int) h (by omega))
  have S0 := Lib.hid S
  have HR := Lib.hid hr
  have HB := Lib.hid (fun F' e w' (s : St I w F F' e w') => s.box hb hc)
  have HN := Lib.hid (fun F' e w' (s : St I w F F' e w') => s.nin hc hb.lt)
  obtain ⟨n, hn⟩ : ∃ n, Hid (n = l.length) := ⟨_, Lib.hid rfl⟩
  rw [← hn.out] at KN hm ⊢
  clear S hr h hl0 hb hc
  go_enter Try.func54, Try.ntmps54
  go_wp2_with fail
  refine KN.out.mono ?_
  rintro e w1 ⟨rfl, F1, s1⟩
  have S1 : Hid (St I w F F1 (evs ++ (Ev.n n :: (l.take 0).flatMap (fun x => evC x.c))) w1) := Lib.hid s1
  clear s1 KN
  go_wp2_with fail
  go_loopw [7, 14] (fun a i wr => ∃ (k : Nat) (F' : List Nat), k ≤ n ∧ i = .int .i64 k ∧ Hid (St I w F F' (evs ++ (Ev.n n :: (l.take k).flatMap (fun x => evC x.c))) wr)) (fun _ i _ => n - (intOf i).toNat)
  case atStart => exact ⟨0, F1, by omega, rfl, S1⟩
  case round =>
    obtain ⟨k, Fk, hk, rfl, hok⟩ := hrel
    clear S1
    by_cases hkl : k < n
    · have d1 : decide ((k : Int) < (n : Int)) = true := decide_eq_true (by omega)
      have hkx : k < l.length := by rw [← hn.out]; exact hkl
      obtain ⟨b, off, rfl, hlt, c0, c1, c2, c3, c4, c5⟩ := tbl_con HR.out hkx
      replace HB := HB.out _ _ _ hok.out
      replace HN := HN.out _ _ _ hok.out
      have hlk : (evs ++ (Ev.n n :: (l.take k).flatMap (fun x => evC x.c))).length + (evC l[k].c).length ≤ MX := by
        have := flat_at (fun x => evC x.c) l k hkx
        rw [List.length_append, List.length_cons]
        try dsimp only at this
        omega
      have hnx : Hid (evs ++ (Ev.n n :: (l.take k).flatMap (fun x => evC x.c)) ++ evC l[k].c = evs ++ (Ev.n n :: (l.take (k + 1)).flatMap (fun x => evC x.c))) := Lib.hid (by rw [flat_next _ _ _ hkx]; simp only [List.append_assoc, List.cons_append])
      have hx0 := hxs l[k] (List.getElem_mem hkx)
      replace c0 := S0.out.cell hok.out.i (show b < w0.heap.size from hlt) c0
      replace c1 := S0.out.cell hok.out.i (show b < w0.heap.size from hlt) c1
      replace c2 := S0.out.cell hok.out.i (show b < w0.heap.size from hlt) c2
      replace c3 := S0.out.cell hok.out.i (show b < w0.heap.size from hlt) c3
      replace c4 := S0.out.cell hok.out.i (show b < w0.heap.size from hlt) c4
      replace c5 := S0.out.cell hok.out.i (show b < w0.heap.size from hlt) c5
      clear hlt
      generalize l[k] = x at *
      obtain ⟨⟨xo, xa, xb, xk, xt, xg⟩, xA, xc⟩ := x
      dsimp only at *
      obtain ⟨W, hWe⟩ : ∃ W, Hid (W = wr.alloc (.cells #[.int .i64 xo, .string xa, .string xb, .int .i64 xk, .string xt, .slice xA xg.length xc] 84)) := ⟨_, Lib.hid rfl⟩
      have BW : Box W wr.heap.size 84 #[.int .i64 xo, .string xa, .string xb, .int .i64 xk, .string xt, .slice xA xg.length xc] := by rw [hWe.out]; exact Box.new _ _ _
      have hfr : Hid (∀ F' e w', St I W Fk F' e w' → St I wr Fk F' e w') := Lib.hid (by rw [hWe.out]; exact fun _ _ _ => St.from_alloc)
      have HIW : I Fk (evs ++ (Ev.n n :: (l.take k).flatMap (fun x => evC x.c))) W := by rw [hWe.out]; exact S0.out.alloc hok.out.i _
      have HBW : Box W c 104 #[.iface 66 (.pointer (some ⟨g, 0, none⟩))] := by rw [hWe.out]; exact HB.kept ((Fr.refl [] _).alloc _) (by simp)
      have KT := put_con_t S0.out HIW ⟨xo, xa, xb, xk, xt, xg⟩ xA xc hx0.g c HBW HN hlk
      rw [hnx.out] at KT
      replace KT := Lib.hid KT
      clear hnx HIW HBW HB
      go_upto_region 4 with fail
      rw [← hWe.out]
      generalize wr.heap.size = bm at *
      have z0 : W.cell? ⟨bm, 0, none⟩ = _ := BW.cell 0
      have z1 : W.cell? ⟨bm, 1, none⟩ = _ := BW.cell 1
      have z2 : W.cell? ⟨bm, 2, none⟩ = _ := BW.cell 2
      have z3 : W.cell? ⟨bm, 3, none⟩ = _ := BW.cell 3
      have z4 : W.cell? ⟨bm, 4, none⟩ = _ := BW.cell 4
      have z5 : W.cell? ⟨bm, 5, none⟩ = _ := BW.cell 5
      go_wp2_with fail
      refine KT.out.mono ?_
      rintro e w2 ⟨rfl, F2, s2⟩
      have S2 := Lib.hid (hok.out.trans (hfr.out _ _ _ s2))
      clear s2 KT hok
      go_wp2_with fail
      go_roundw
      case rel => exact ⟨k + 1, F2, by omega, by go_num, S2⟩
      case measure => simp [intOf]; omega
    · obtain rfl : k = n := by omega
      have d1 : decide ((k : Int) < (k : Int)) = false := decide_eq_false (by omega)
      have e1 : Hid (Ev.n k :: (l.take k).flatMap (fun x => evC x.c) = evCs (l.map (·.c))) := Lib.hid (by rw [hn.out, List.take_length]; simp only [evMs, evOs, evFs, evCs, List.flatMap_map, List.length_map])
      rw [e1.out] at hok
      go_wp2_with fail
      go_end0
      exact ⟨rfl, Fk, hok.out⟩

end Go.Proofs.Ytdmmkjijgoiecaa.re
