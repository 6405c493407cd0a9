import Derived.Test.YtdmmkjijgoiecaaW1
set_option linter.all false
/-
  record: a summary put: lists, the closures, at both sinks (gen_re1.py).
-/
namespace Go.Proofs.Ytdmmkjijgoiecaa.re
open Go.RowKit Go.Shelf Go.Proofs.Ytdmmkjijgoiecaa.mem Go.Proofs.Ytdmmkjijgoiecaa.sy

set_option maxRecDepth 100000 in
theorem puts_str_w {w0 : World} {g : Nat} {I : List Nat → List Ev → World → Prop} (S : Sink 114 115 g w0 I) {F : List Nat} {evs : List Ev} {w : World} (h : I F evs w) (A : Option Addr) (c : Nat) (l : List ByteArray) (hr : Rd w0 A (l.map Value.string)) (hl0 : evs.length + (evL l).length ≤ MX) :
    Calls Try.prog 47 #[.iface 54 (.pointer (some ⟨g, 0, none⟩)), .slice A l.length c, .func (.method "weft/record.text") #[.iface 54 (.pointer (some ⟨g, 0, none⟩))] #[]] w (SPost I F (evs ++ evL l) w) := by
  have hl : evs.length + l.length + 1 ≤ MX := by simpa [evL, Nat.add_assoc] using hl0
  have hm : l.length ≤ 20000000 := by unfold MX at hl; omega
  have KN := Lib.hid (S.num (l.length : Int) h (by omega))
  have S0 := Lib.hid S
  have HR := Lib.hid hr
  obtain ⟨n, hn⟩ : ∃ n, Hid (n = l.length) := ⟨_, Lib.hid rfl⟩
  rw [← hn.out] at KN hl hm ⊢
  clear S hr h hl0
  go_enter Try.func47, Try.ntmps47
  go_wp2_with fail
  refine KN.out.mono ?_
  rintro e w1 ⟨rfl, F1, s1⟩
  have S1 : Hid (St I w F F1 (evs ++ (Ev.n n :: (l.take 0).map Ev.t)) w1) := Lib.hid s1
  clear s1 KN
  go_wp2_with fail
  go_loopw [7, 14] (fun a i wr => ∃ (k : Nat) (F' : List Nat), k ≤ n ∧ i = .int .i64 k ∧ Hid (St I w F F' (evs ++ (Ev.n n :: (l.take k).map Ev.t)) wr)) (fun _ i _ => n - (intOf i).toNat)
  case atStart => exact ⟨0, F1, by omega, rfl, S1⟩
  case round =>
    obtain ⟨k, Fk, hk, rfl, hok⟩ := hrel
    clear S1
    by_cases hkl : k < n
    · have d1 : decide ((k : Int) < (n : Int)) = true := decide_eq_true (by omega)
      have hkx : k < l.length := by rw [← hn.out]; exact hkl
      obtain ⟨b, off, rfl, hlt, hc⟩ := HR.out (by rw [List.length_map]; omega)
      have c2 : wr.cell? ⟨b, off + k, none⟩ = some (.string l[k]) := by
        have e := hc k (by rw [List.length_map]; exact hkx)
        rw [List.getElem_map] at e
        exact S0.out.cell hok.out.i hlt e
      have KT := Lib.hid (S0.out.txt l[k] hok.out.i (by rw [List.length_append, List.length_cons, List.length_map, List.length_take]; omega))
      have hnx : Hid (evs ++ (Ev.n n :: (l.take k).map Ev.t) ++ [Ev.t l[k]] = evs ++ (Ev.n n :: (l.take (k + 1)).map Ev.t)) := Lib.hid (by rw [(List.take_append_getElem hkx).symm]; simp only [List.map_append, List.map_cons, List.map_nil, List.append_assoc, List.cons_append])
      rw [hnx.out] at KT
      clear hc hnx
      generalize l[k] = x at *
      go_wp2_with fail
      refine KT.out.mono ?_
      rintro e w2 ⟨rfl, F2, s2⟩
      have S2 := Lib.hid (hok.out.trans s2)
      clear s2 KT hok c2
      go_wp2_with fail
      go_roundw
      case rel => exact ⟨k + 1, F2, by omega, by go_num, S2⟩
      case measure => simp [intOf]; omega
    · obtain rfl : k = n := by omega
      have d1 : decide ((k : Int) < (k : Int)) = false := decide_eq_false (by omega)
      have e1 : Hid (Ev.n k :: (l.take k).map Ev.t = evL l) := Lib.hid (by rw [hn.out, List.take_length]; rfl)
      rw [e1.out] at hok
      go_wp2_with fail
      go_end0
      exact ⟨rfl, Fk, hok.out⟩

set_option maxRecDepth 100000 in
theorem put_mk_w {w0 : World} {g : Nat} {I : List Nat → List Ev → World → Prop} (S : Sink 114 115 g w0 I) {F : List Nat} {evs : List Ev} {w : World} (h : I F evs w) (m : Mk) (c : Nat) (hb : Box w c 104 #[.iface 54 (.pointer (some ⟨g, 0, none⟩))]) (hc : c ∉ F) (hl : evs.length + (evM m).length ≤ MX) :
    Calls Try.prog 51 #[.agg #[.int .i64 m.at_, .string m.tag], .pointer (some ⟨c, 0, none⟩)] w (SPost I F (evs ++ evM m) w) := by
  have e0 : evs ++ evM m = ((evs ++ [Ev.n m.at_]) ++ [Ev.t m.tag]) := by simp [evM, evO, evF, evC]
  have hl2 : ((evs ++ [Ev.n m.at_]) ++ [Ev.t m.tag]).length ≤ MX := by rw [← e0, List.length_append]; exact hl
  rw [e0]
  have hW := S.alloc h (.cells #[.int .i64 m.at_, .string m.tag] 98)
  have B1 := Box.new w 98 #[.int .i64 m.at_, .string m.tag]
  have hn1 : w.heap.size ∉ F := fun hx => by have := S.lt h _ hx; omega
  have B0 : Box (w.alloc (.cells #[.int .i64 m.at_, .string m.tag] 98)) c 104 #[.iface 54 (.pointer (some ⟨g, 0, none⟩))] := hb.kept ((Fr.refl [] w).alloc _) (by simp)
  have S0 := Lib.hid S
  obtain ⟨W, hWe⟩ : ∃ W, Hid (W = w.alloc (.cells #[.int .i64 m.at_, .string m.tag] 98)) := ⟨_, Lib.hid rfl⟩
  have hfin : Hid (∀ F' e w', St I W F F' e w' → St I w F F' e w') := Lib.hid (by rw [hWe.out]; exact fun _ _ _ => St.from_alloc)
  rw [← hWe.out] at hW B0 B1
  have HN : Hid (∀ F' e w', St I W F F' e w' → c ∉ F') := Lib.hid (fun _ _ _ s => s.nin hc B0.lt)
  have HB : Hid (∀ F' e w', St I W F F' e w' → Box w' c 104 #[.iface 54 (.pointer (some ⟨g, 0, none⟩))] ∧ Box w' w.heap.size 98 #[.int .i64 m.at_, .string m.tag]) := Lib.hid (fun _ _ _ s => ⟨s.box B0 hc, s.box B1 hn1⟩)
  have T0 := Lib.hid (St.start hW)
  have E0 := Lib.hid e0
  clear hW B0 B1 S h hb e0
  go_enter Try.func51, Try.ntmps51
  go_upto_region 1 with fail
  rw [← hWe.out]
  generalize w.heap.size = bm at *
  have y0 : W.cell? ⟨c, 0, none⟩ = some (.iface 54 (.pointer (some ⟨g, 0, none⟩))) := (HB.out _ _ _ T0.out).1.cell 0
  have y1 : W.cell? ⟨bm, 0, none⟩ = some (.int .i64 m.at_) := (HB.out _ _ _ T0.out).2.cell 0
  have K1 := Lib.hid (S0.out.num m.at_ T0.out.i (by clear E0; simp only [List.length_append, List.length_cons, List.length_nil] at hl2 ⊢; omega))
  go_wp2_with fail
  refine K1.out.mono ?_
  rintro e w1 ⟨rfl, F1, s1⟩
  have T1 := Lib.hid (T0.out.trans s1)
  clear s1 y0 y1 K1 T0
  have y0 : w1.cell? ⟨c, 0, none⟩ = some (.iface 54 (.pointer (some ⟨g, 0, none⟩))) := (HB.out _ _ _ T1.out).1.cell 0
  have y1 : w1.cell? ⟨bm, 1, none⟩ = some (.string m.tag) := (HB.out _ _ _ T1.out).2.cell 1
  have K2 := Lib.hid (S0.out.txt m.tag T1.out.i (by clear E0; simp only [List.length_append, List.length_cons, List.length_nil] at hl2 ⊢; omega))
  go_wp2_with fail
  refine K2.out.mono ?_
  rintro e w2 ⟨rfl, F2, s2⟩
  have T2 := Lib.hid (T1.out.trans s2)
  clear s2 y0 y1 K2 T1
  go_wp2_with fail
  go_end0
  exact ⟨rfl, F2, hfin.out _ _ _ T2.out⟩

set_option maxRecDepth 100000 in
theorem puts_mk_w {w0 : World} {g : Nat} {I : List Nat → List Ev → World → Prop} (S : Sink 114 115 g w0 I) {F : List Nat} {evs : List Ev} {w : World} (h : I F evs w) (A : Option Addr) (ac : Nat) (l : List Mk) (hr : Tbl w0 A 2 (l.map mkRow)) (c : Nat) (hb : Box w c 104 #[.iface 54 (.pointer (some ⟨g, 0, none⟩))]) (hc : c ∉ F) (hl0 : evs.length + (evMs l).length ≤ MX) :
    Calls Try.prog 50 #[.iface 54 (.pointer (some ⟨g, 0, none⟩)), .slice A l.length ac, .func (.func 51) #[] #[.pointer (some ⟨c, 0, none⟩)]] w (SPost I F (evs ++ evMs l) w) := by
  have hl1 : evs.length + (l.flatMap (fun x => evM x)).length + 1 ≤ MX := by simpa [evMs, evOs, evFs, evCs, Nat.add_assoc, List.flatMap_map] using hl0
  have hm : l.length ≤ 20000000 := by
    have e1 : l.length ≤ (l.flatMap (fun x => evM x)).length := flat_ge _ (fun x => by simp [evM, evO, evF, evC]) l
    unfold MX at hl1
    omega
  have KN := Lib.hid (S.num (l.length : Int) h (by omega))
  have S0 := Lib.hid S
  have HR := Lib.hid hr
  have HB := Lib.hid (fun F' e w' (s : St I w F F' e w') => s.box hb hc)
  have HN := Lib.hid (fun F' e w' (s : St I w F F' e w') => s.nin hc hb.lt)
  obtain ⟨n, hn⟩ : ∃ n, Hid (n = l.length) := ⟨_, Lib.hid rfl⟩
  rw [← hn.out] at KN hm ⊢
  clear S hr h hl0 hb hc
  go_enter Try.func50, Try.ntmps50
  go_wp2_with fail
  refine KN.out.mono ?_
  rintro e w1 ⟨rfl, F1, s1⟩
  have S1 : Hid (St I w F F1 (evs ++ (Ev.n n :: (l.take 0).flatMap (fun x => evM x))) w1) := Lib.hid s1
  clear s1 KN
  go_wp2_with fail
  go_loopw [7, 14] (fun a i wr => ∃ (k : Nat) (F' : List Nat), k ≤ n ∧ i = .int .i64 k ∧ Hid (St I w F F' (evs ++ (Ev.n n :: (l.take k).flatMap (fun x => evM x))) wr)) (fun _ i _ => n - (intOf i).toNat)
  case atStart => exact ⟨0, F1, by omega, rfl, S1⟩
  case round =>
    obtain ⟨k, Fk, hk, rfl, hok⟩ := hrel
    clear S1
    by_cases hkl : k < n
    · have d1 : decide ((k : Int) < (n : Int)) = true := decide_eq_true (by omega)
      have hkx : k < l.length := by rw [← hn.out]; exact hkl
      obtain ⟨b, off, rfl, hlt, c0, c1⟩ := tbl_mk HR.out hkx
      replace HB := HB.out _ _ _ hok.out
      replace HN := HN.out _ _ _ hok.out
      have hlk : (evs ++ (Ev.n n :: (l.take k).flatMap (fun x => evM x))).length + (evM l[k]).length ≤ MX := by
        have := flat_at (fun x => evM x) l k hkx
        rw [List.length_append, List.length_cons]
        try dsimp only at this
        omega
      have hnx : Hid (evs ++ (Ev.n n :: (l.take k).flatMap (fun x => evM x)) ++ evM l[k] = evs ++ (Ev.n n :: (l.take (k + 1)).flatMap (fun x => evM x))) := Lib.hid (by rw [flat_next _ _ _ hkx]; simp only [List.append_assoc, List.cons_append])
      replace c0 := S0.out.cell hok.out.i (show b < w0.heap.size from hlt) c0
      replace c1 := S0.out.cell hok.out.i (show b < w0.heap.size from hlt) c1
      clear hlt
      generalize l[k] = m at *
      obtain ⟨W, hWe⟩ : ∃ W, Hid (W = wr.alloc (.cells #[.int .i64 m.at_, .string m.tag] 98)) := ⟨_, Lib.hid rfl⟩
      have BW : Box W wr.heap.size 98 #[.int .i64 m.at_, .string m.tag] := by rw [hWe.out]; exact Box.new _ _ _
      have hfr : Hid (∀ F' e w', St I W Fk F' e w' → St I wr Fk F' e w') := Lib.hid (by rw [hWe.out]; exact fun _ _ _ => St.from_alloc)
      have HIW : I Fk (evs ++ (Ev.n n :: (l.take k).flatMap (fun x => evM x))) W := by rw [hWe.out]; exact S0.out.alloc hok.out.i _
      have HBW : Box W c 104 #[.iface 54 (.pointer (some ⟨g, 0, none⟩))] := by rw [hWe.out]; exact HB.kept ((Fr.refl [] _).alloc _) (by simp)
      have KT := put_mk_w S0.out HIW m c HBW HN hlk
      rw [hnx.out] at KT
      replace KT := Lib.hid KT
      clear hnx HIW HBW HB
      go_upto_region 4 with fail
      rw [← hWe.out]
      generalize wr.heap.size = bm at *
      have z0 : W.cell? ⟨bm, 0, none⟩ = _ := BW.cell 0
      have z1 : W.cell? ⟨bm, 1, none⟩ = _ := BW.cell 1
      go_wp2_with fail
      refine KT.out.mono ?_
      rintro e w2 ⟨rfl, F2, s2⟩
      have S2 := Lib.hid (hok.out.trans (hfr.out _ _ _ s2))
      clear s2 KT hok
      go_wp2_with fail
      go_roundw
      case rel => exact ⟨k + 1, F2, by omega, by go_num, S2⟩
      case measure => simp [intOf]; omega
    · obtain rfl : k = n := by omega
      have d1 : decide ((k : Int) < (k : Int)) = false := decide_eq_false (by omega)
      have e1 : Hid (Ev.n k :: (l.take k).flatMap (fun x => evM x) = evMs l) := Lib.hid (by rw [hn.out, List.take_length]; simp only [evMs, evOs, evFs, evCs, List.flatMap_map, List.length_map])
      rw [e1.out] at hok
      go_wp2_with fail
      go_end0
      exact ⟨rfl, Fk, hok.out⟩

set_option maxRecDepth 100000 in
theorem put_obj_w {w0 : World} {g : Nat} {I : List Nat → List Ev → World → Prop} (S : Sink 114 115 g w0 I) {F : List Nat} {evs : List Ev} {w : World} (h : I F evs w) (o : SO) (mA : Option Addr) (mc : Nat) (hr : Tbl w0 mA 2 (o.marks.map mkRow)) (c : Nat) (hb : Box w c 104 #[.iface 54 (.pointer (some ⟨g, 0, none⟩))]) (hc : c ∉ F) (hl : evs.length + (evO o).length ≤ MX) :
    Calls Try.prog 49 #[.agg #[.string o.name, .string o.kinds, .slice mA o.marks.length mc], .pointer (some ⟨c, 0, none⟩)] w (SPost I F (evs ++ evO o) w) := by
  have e0 : evs ++ evO o = (((evs ++ [Ev.t o.name]) ++ [Ev.t o.kinds]) ++ evMs o.marks) := by simp [evM, evO, evF, evC]
  have hl2 : (((evs ++ [Ev.t o.name]) ++ [Ev.t o.kinds]) ++ evMs o.marks).length ≤ MX := by rw [← e0, List.length_append]; exact hl
  rw [e0]
  have hW := S.alloc h (.cells #[.string o.name, .string o.kinds, .slice mA o.marks.length mc] 76)
  have B1 := Box.new w 76 #[.string o.name, .string o.kinds, .slice mA o.marks.length mc]
  have hn1 : w.heap.size ∉ F := fun hx => by have := S.lt h _ hx; omega
  have B0 : Box (w.alloc (.cells #[.string o.name, .string o.kinds, .slice mA o.marks.length mc] 76)) c 104 #[.iface 54 (.pointer (some ⟨g, 0, none⟩))] := hb.kept ((Fr.refl [] w).alloc _) (by simp)
  have S0 := Lib.hid S
  obtain ⟨W, hWe⟩ : ∃ W, Hid (W = w.alloc (.cells #[.string o.name, .string o.kinds, .slice mA o.marks.length mc] 76)) := ⟨_, Lib.hid rfl⟩
  have hfin : Hid (∀ F' e w', St I W F F' e w' → St I w F F' e w') := Lib.hid (by rw [hWe.out]; exact fun _ _ _ => St.from_alloc)
  rw [← hWe.out] at hW B0 B1
  have HN : Hid (∀ F' e w', St I W F F' e w' → c ∉ F') := Lib.hid (fun _ _ _ s => s.nin hc B0.lt)
  have HB : Hid (∀ F' e w', St I W F F' e w' → Box w' c 104 #[.iface 54 (.pointer (some ⟨g, 0, none⟩))] ∧ Box w' w.heap.size 76 #[.string o.name, .string o.kinds, .slice mA o.marks.length mc]) := Lib.hid (fun _ _ _ s => ⟨s.box B0 hc, s.box B1 hn1⟩)
  have T0 := Lib.hid (St.start hW)
  have E0 := Lib.hid e0
  clear hW B0 B1 S h hb e0
  go_enter Try.func49, Try.ntmps49
  go_upto_region 1 with fail
  rw [← hWe.out]
  generalize w.heap.size = bm at *
  have y0 : W.cell? ⟨c, 0, none⟩ = some (.iface 54 (.pointer (some ⟨g, 0, none⟩))) := (HB.out _ _ _ T0.out).1.cell 0
  have y1 : W.cell? ⟨bm, 0, none⟩ = some (.string o.name) := (HB.out _ _ _ T0.out).2.cell 0
  have K1 := Lib.hid (S0.out.txt o.name T0.out.i (by clear E0; simp only [List.length_append, List.length_cons, List.length_nil] at hl2 ⊢; omega))
  go_wp2_with fail
  refine K1.out.mono ?_
  rintro e w1 ⟨rfl, F1, s1⟩
  have T1 := Lib.hid (T0.out.trans s1)
  clear s1 y0 y1 K1 T0
  have y0 : w1.cell? ⟨c, 0, none⟩ = some (.iface 54 (.pointer (some ⟨g, 0, none⟩))) := (HB.out _ _ _ T1.out).1.cell 0
  have y1 : w1.cell? ⟨bm, 1, none⟩ = some (.string o.kinds) := (HB.out _ _ _ T1.out).2.cell 1
  have K2 := Lib.hid (S0.out.txt o.kinds T1.out.i (by clear E0; simp only [List.length_append, List.length_cons, List.length_nil] at hl2 ⊢; omega))
  go_wp2_with fail
  refine K2.out.mono ?_
  rintro e w2 ⟨rfl, F2, s2⟩
  have T2 := Lib.hid (T1.out.trans s2)
  clear s2 y0 y1 K2 T1
  have y0 : w2.cell? ⟨c, 0, none⟩ = some (.iface 54 (.pointer (some ⟨g, 0, none⟩))) := (HB.out _ _ _ T2.out).1.cell 0
  have y1 : w2.cell? ⟨bm, 2, none⟩ = some (.slice mA o.marks.length mc) := (HB.out _ _ _ T2.out).2.cell 2
  have K3 := Lib.hid (puts_mk_w S0.out T2.out.i mA mc o.marks hr c (HB.out _ _ _ T2.out).1 (HN.out _ _ _ T2.out) (by clear E0; simp only [List.length_append, List.length_cons, List.length_nil] at hl2 ⊢; omega))
  go_wp2_with fail
  refine K3.out.mono ?_
  rintro e w3 ⟨rfl, F3, s3⟩
  have T3 := Lib.hid (T2.out.trans s3)
  clear s3 y0 y1 K3 T2
  go_wp2_with fail
  go_end0
  exact ⟨rfl, F3, hfin.out _ _ _ T3.out⟩

set_option maxRecDepth 100000 in
theorem puts_obj_w {w0 : World} {g : Nat} {I : List Nat → List Ev → World → Prop} (S : Sink 114 115 g w0 I) {F : List Nat} {evs : List Ev} {w : World} (h : I F evs w) (A : Option Addr) (ac : Nat) (l : List MO) (hr : Tbl w0 A 3 (l.map MO.row)) (c : Nat) (hb : Box w c 104 #[.iface 54 (.pointer (some ⟨g, 0, none⟩))]) (hc : c ∉ F) (hxs : ∀ x ∈ l, MOk w0 x) (hl0 : evs.length + (evOs (l.map (·.o))).length ≤ MX) :
    Calls Try.prog 48 #[.iface 54 (.pointer (some ⟨g, 0, none⟩)), .slice A l.length ac, .func (.func 49) #[] #[.pointer (some ⟨c, 0, none⟩)]] w (SPost I F (evs ++ evOs (l.map (·.o))) w) := by
  have hl1 : evs.length + (l.flatMap (fun x => evO x.o)).length + 1 ≤ MX := by simpa [evMs, evOs, evFs, evCs, Nat.add_assoc, List.flatMap_map] using hl0
  have hm : l.length ≤ 20000000 := by
    have e1 : l.length ≤ (l.flatMap (fun x => evO x.o)).length := flat_ge _ (fun x => by simp [evM, evO, evF, evC]) l
    unfold MX at hl1
    omega
  have KN := Lib.hid (S.num (l.length : Int) h (by omega))
  have S0 := Lib.hid S
  have HR := Lib.hid hr
  have HB := Lib.hid (fun F' e w' (s : St I w F F' e w') => s.box hb hc)
  have HN := Lib.hid (fun F' e w' (s : St I w F F' e w') => s.nin hc hb.lt)
  obtain ⟨n, hn⟩ : ∃ n, Hid (n = l.length) := ⟨_, Lib.hid rfl⟩
  rw [← hn.out] at KN hm ⊢
  clear S hr h hl0 hb hc
  go_enter Try.func48, Try.ntmps48
  go_wp2_with fail
  refine KN.out.mono ?_
  rintro e w1 ⟨rfl, F1, s1⟩
  have S1 : Hid (St I w F F1 (evs ++ (Ev.n n :: (l.take 0).flatMap (fun x => evO x.o))) w1) := Lib.hid s1
  clear s1 KN
  go_wp2_with fail
  go_loopw [7, 14] (fun a i wr => ∃ (k : Nat) (F' : List Nat), k ≤ n ∧ i = .int .i64 k ∧ Hid (St I w F F' (evs ++ (Ev.n n :: (l.take k).flatMap (fun x => evO x.o))) wr)) (fun _ i _ => n - (intOf i).toNat)
  case atStart => exact ⟨0, F1, by omega, rfl, S1⟩
  case round =>
    obtain ⟨k, Fk, hk, rfl, hok⟩ := hrel
    clear S1
    by_cases hkl : k < n
    · have d1 : decide ((k : Int) < (n : Int)) = true := decide_eq_true (by omega)
      have hkx : k < l.length := by rw [← hn.out]; exact hkl
      obtain ⟨b, off, rfl, hlt, c0, c1, c2⟩ := tbl_obj HR.out hkx
      replace HB := HB.out _ _ _ hok.out
      replace HN := HN.out _ _ _ hok.out
      have hlk : (evs ++ (Ev.n n :: (l.take k).flatMap (fun x => evO x.o))).length + (evO l[k].o).length ≤ MX := by
        have := flat_at (fun x => evO x.o) l k hkx
        rw [List.length_append, List.length_cons]
        try dsimp only at this
        omega
      have hnx : Hid (evs ++ (Ev.n n :: (l.take k).flatMap (fun x => evO x.o)) ++ evO l[k].o = evs ++ (Ev.n n :: (l.take (k + 1)).flatMap (fun x => evO x.o))) := Lib.hid (by rw [flat_next _ _ _ hkx]; simp only [List.append_assoc, List.cons_append])
      have hx0 := hxs l[k] (List.getElem_mem hkx)
      replace c0 := S0.out.cell hok.out.i (show b < w0.heap.size from hlt) c0
      replace c1 := S0.out.cell hok.out.i (show b < w0.heap.size from hlt) c1
      replace c2 := S0.out.cell hok.out.i (show b < w0.heap.size from hlt) c2
      clear hlt
      generalize l[k] = x at *
      obtain ⟨⟨xn, xk, xm⟩, xA, xc⟩ := x
      dsimp only at *
      obtain ⟨W, hWe⟩ : ∃ W, Hid (W = wr.alloc (.cells #[.string xn, .string xk, .slice xA xm.length xc] 76)) := ⟨_, Lib.hid rfl⟩
      have BW : Box W wr.heap.size 76 #[.string xn, .string xk, .slice xA xm.length xc] := by rw [hWe.out]; exact Box.new _ _ _
      have hfr : Hid (∀ F' e w', St I W Fk F' e w' → St I wr Fk F' e w') := Lib.hid (by rw [hWe.out]; exact fun _ _ _ => St.from_alloc)
      have HIW : I Fk (evs ++ (Ev.n n :: (l.take k).flatMap (fun x => evO x.o))) W := by rw [hWe.out]; exact S0.out.alloc hok.out.i _
      have HBW : Box W c 104 #[.iface 54 (.pointer (some ⟨g, 0, none⟩))] := by rw [hWe.out]; exact HB.kept ((Fr.refl [] _).alloc _) (by simp)
      have KT := put_obj_w S0.out HIW ⟨xn, xk, xm⟩ xA xc hx0.m c HBW HN hlk
      rw [hnx.out] at KT
      replace KT := Lib.hid KT
      clear hnx HIW HBW HB
      go_upto_region 4 with fail
      rw [← hWe.out]
      generalize wr.heap.size = bm at *
      have z0 : W.cell? ⟨bm, 0, none⟩ = _ := BW.cell 0
      have z1 : W.cell? ⟨bm, 1, none⟩ = _ := BW.cell 1
      have z2 : W.cell? ⟨bm, 2, none⟩ = _ := BW.cell 2
      go_wp2_with fail
      refine KT.out.mono ?_
      rintro e w2 ⟨rfl, F2, s2⟩
      have S2 := Lib.hid (hok.out.trans (hfr.out _ _ _ s2))
      clear s2 KT hok
      go_wp2_with fail
      go_roundw
      case rel => exact ⟨k + 1, F2, by omega, by go_num, S2⟩
      case measure => simp [intOf]; omega
    · obtain rfl : k = n := by omega
      have d1 : decide ((k : Int) < (k : Int)) = false := decide_eq_false (by omega)
      have e1 : Hid (Ev.n k :: (l.take k).flatMap (fun x => evO x.o) = evOs (l.map (·.o))) := Lib.hid (by rw [hn.out, List.take_length]; simp only [evMs, evOs, evFs, evCs, List.flatMap_map, List.length_map])
      rw [e1.out] at hok
      go_wp2_with fail
      go_end0
      exact ⟨rfl, Fk, hok.out⟩

set_option maxRecDepth 100000 in
theorem put_fn_w {w0 : World} {g : Nat} {I : List Nat → List Ev → World → Prop} (S : Sink 114 115 g w0 I) {F : List Nat} {evs : List Ev} {w : World} (h : I F evs w) (o : SF) (c : Nat) (hb : Box w c 104 #[.iface 54 (.pointer (some ⟨g, 0, none⟩))]) (hc : c ∉ F) (hl : evs.length + (evF o).length ≤ MX) :
    Calls Try.prog 53 #[.agg #[.string o.name, .string o.kinds, .string o.ret], .pointer (some ⟨c, 0, none⟩)] w (SPost I F (evs ++ evF o) w) := by
  have e0 : evs ++ evF o = (((evs ++ [Ev.t o.name]) ++ [Ev.t o.kinds]) ++ [Ev.t o.ret]) := by simp [evM, evO, evF, evC]
  have hl2 : (((evs ++ [Ev.t o.name]) ++ [Ev.t o.kinds]) ++ [Ev.t o.ret]).length ≤ MX := by rw [← e0, List.length_append]; exact hl
  rw [e0]
  have hW := S.alloc h (.cells #[.string o.name, .string o.kinds, .string o.ret] 80)
  have B1 := Box.new w 80 #[.string o.name, .string o.kinds, .string o.ret]
  have hn1 : w.heap.size ∉ F := fun hx => by have := S.lt h _ hx; omega
  have B0 : Box (w.alloc (.cells #[.string o.name, .string o.kinds, .string o.ret] 80)) c 104 #[.iface 54 (.pointer (some ⟨g, 0, none⟩))] := hb.kept ((Fr.refl [] w).alloc _) (by simp)
  have S0 := Lib.hid S
  obtain ⟨W, hWe⟩ : ∃ W, Hid (W = w.alloc (.cells #[.string o.name, .string o.kinds, .string o.ret] 80)) := ⟨_, Lib.hid rfl⟩
  have hfin : Hid (∀ F' e w', St I W F F' e w' → St I w F F' e w') := Lib.hid (by rw [hWe.out]; exact fun _ _ _ => St.from_alloc)
  rw [← hWe.out] at hW B0 B1
  have HN : Hid (∀ F' e w', St I W F F' e w' → c ∉ F') := Lib.hid (fun _ _ _ s => s.nin hc B0.lt)
  have HB : Hid (∀ F' e w', St I W F F' e w' → Box w' c 104 #[.iface 54 (.pointer (some ⟨g, 0, none⟩))] ∧ Box w' w.heap.size 80 #[.string o.name, .string o.kinds, .string o.ret]) := Lib.hid (fun _ _ _ s => ⟨s.box B0 hc, s.box B1 hn1⟩)
  have T0 := Lib.hid (St.start hW)
  have E0 := Lib.hid e0
  clear hW B0 B1 S h hb e0
  go_enter Try.func53, Try.ntmps53
  go_upto_region 1 with fail
  rw [← hWe.out]
  generalize w.heap.size = bm at *
  have y0 : W.cell? ⟨c, 0, none⟩ = some (.iface 54 (.pointer (some ⟨g, 0, none⟩))) := (HB.out _ _ _ T0.out).1.cell 0
  have y1 : W.cell? ⟨bm, 0, none⟩ = some (.string o.name) := (HB.out _ _ _ T0.out).2.cell 0
  have K1 := Lib.hid (S0.out.txt o.name T0.out.i (by clear E0; simp only [List.length_append, List.length_cons, List.length_nil] at hl2 ⊢; omega))
  go_wp2_with fail
  refine K1.out.mono ?_
  rintro e w1 ⟨rfl, F1, s1⟩
  have T1 := Lib.hid (T0.out.trans s1)
  clear s1 y0 y1 K1 T0
  have y0 : w1.cell? ⟨c, 0, none⟩ = some (.iface 54 (.pointer (some ⟨g, 0, none⟩))) := (HB.out _ _ _ T1.out).1.cell 0
  have y1 : w1.cell? ⟨bm, 1, none⟩ = some (.string o.kinds) := (HB.out _ _ _ T1.out).2.cell 1
  have K2 := Lib.hid (S0.out.txt o.kinds T1.out.i (by clear E0; simp only [List.length_append, List.length_cons, List.length_nil] at hl2 ⊢; omega))
  go_wp2_with fail
  refine K2.out.mono ?_
  rintro e w2 ⟨rfl, F2, s2⟩
  have T2 := Lib.hid (T1.out.trans s2)
  clear s2 y0 y1 K2 T1
  have y0 : w2.cell? ⟨c, 0, none⟩ = some (.iface 54 (.pointer (some ⟨g, 0, none⟩))) := (HB.out _ _ _ T2.out).1.cell 0
  have y1 : w2.cell? ⟨bm, 2, none⟩ = some (.string o.ret) := (HB.out _ _ _ T2.out).2.cell 2
  have K3 := Lib.hid (S0.out.txt o.ret T2.out.i (by clear E0; simp only [List.length_append, List.length_cons, List.length_nil] at hl2 ⊢; omega))
  go_wp2_with fail
  refine K3.out.mono ?_
  rintro e w3 ⟨rfl, F3, s3⟩
  have T3 := Lib.hid (T2.out.trans s3)
  clear s3 y0 y1 K3 T2
  go_wp2_with fail
  go_end0
  exact ⟨rfl, F3, hfin.out _ _ _ T3.out⟩

set_option maxRecDepth 100000 in
theorem puts_fn_w {w0 : World} {g : Nat} {I : List Nat → List Ev → World → Prop} (S : Sink 114 115 g w0 I) {F : List Nat} {evs : List Ev} {w : World} (h : I F evs w) (A : Option Addr) (ac : Nat) (l : List SF) (hr : Tbl w0 A 3 (l.map fnRow)) (c : Nat) (hb : Box w c 104 #[.iface 54 (.pointer (some ⟨g, 0, none⟩))]) (hc : c ∉ F) (hl0 : evs.length + (evFs l).length ≤ MX) :
    Calls Try.prog 52 #[.iface 54 (.pointer (some ⟨g, 0, none⟩)), .slice A l.length ac, .func (.func 53) #[] #[.pointer (some ⟨c, 0, none⟩)]] w (SPost I F (evs ++ evFs l) w) := by
  have hl1 : evs.length + (l.flatMap (fun x => evF x)).length + 1 ≤ MX := by simpa [evMs, evOs, evFs, evCs, Nat.add_assoc, List.flatMap_map] using hl0
  have hm : l.length ≤ 20000000 := by
    have e1 : l.length ≤ (l.flatMap (fun x => evF x)).length := flat_ge _ (fun x => by simp [evM, evO, evF, evC]) l
    unfold MX at hl1
    omega
  have KN := Lib.hid (S.num (l.length : Int) h (by omega))
  have S0 := Lib.hid S
  have HR := Lib.hid hr
  have HB := Lib.hid (fun F' e w' (s : St I w F F' e w') => s.box hb hc)
  have HN := Lib.hid (fun F' e w' (s : St I w F F' e w') => s.nin hc hb.lt)
  obtain ⟨n, hn⟩ : ∃ n, Hid (n = l.length) := ⟨_, Lib.hid rfl⟩
  rw [← hn.out] at KN hm ⊢
  clear S hr h hl0 hb hc
  go_enter Try.func52, Try.ntmps52
  go_wp2_with fail
  refine KN.out.mono ?_
  rintro e w1 ⟨rfl, F1, s1⟩
  have S1 : Hid (St I w F F1 (evs ++ (Ev.n n :: (l.take 0).flatMap (fun x => evF x))) w1) := Lib.hid s1
  clear s1 KN
  go_wp2_with fail
  go_loopw [7, 14] (fun a i wr => ∃ (k : Nat) (F' : List Nat), k ≤ n ∧ i = .int .i64 k ∧ Hid (St I w F F' (evs ++ (Ev.n n :: (l.take k).flatMap (fun x => evF x))) wr)) (fun _ i _ => n - (intOf i).toNat)
  case atStart => exact ⟨0, F1, by omega, rfl, S1⟩
  case round =>
    obtain ⟨k, Fk, hk, rfl, hok⟩ := hrel
    clear S1
    by_cases hkl : k < n
    · have d1 : decide ((k : Int) < (n : Int)) = true := decide_eq_true (by omega)
      have hkx : k < l.length := by rw [← hn.out]; exact hkl
      obtain ⟨b, off, rfl, hlt, c0, c1, c2⟩ := tbl_fn HR.out hkx
      replace HB := HB.out _ _ _ hok.out
      replace HN := HN.out _ _ _ hok.out
      have hlk : (evs ++ (Ev.n n :: (l.take k).flatMap (fun x => evF x))).length + (evF l[k]).length ≤ MX := by
        have := flat_at (fun x => evF x) l k hkx
        rw [List.length_append, List.length_cons]
        try dsimp only at this
        omega
      have hnx : Hid (evs ++ (Ev.n n :: (l.take k).flatMap (fun x => evF x)) ++ evF l[k] = evs ++ (Ev.n n :: (l.take (k + 1)).flatMap (fun x => evF x))) := Lib.hid (by rw [flat_next _ _ _ hkx]; simp only [List.append_assoc, List.cons_append])
      replace c0 := S0.out.cell hok.out.i (show b < w0.heap.size from hlt) c0
      replace c1 := S0.out.cell hok.out.i (show b < w0.heap.size from hlt) c1
      replace c2 := S0.out.cell hok.out.i (show b < w0.heap.size from hlt) c2
      clear hlt
      generalize l[k] = m at *
      obtain ⟨W, hWe⟩ : ∃ W, Hid (W = wr.alloc (.cells #[.string m.name, .string m.kinds, .string m.ret] 80)) := ⟨_, Lib.hid rfl⟩
      have BW : Box W wr.heap.size 80 #[.string m.name, .string m.kinds, .string m.ret] := by rw [hWe.out]; exact Box.new _ _ _
      have hfr : Hid (∀ F' e w', St I W Fk F' e w' → St I wr Fk F' e w') := Lib.hid (by rw [hWe.out]; exact fun _ _ _ => St.from_alloc)
      have HIW : I Fk (evs ++ (Ev.n n :: (l.take k).flatMap (fun x => evF x))) W := by rw [hWe.out]; exact S0.out.alloc hok.out.i _
      have HBW : Box W c 104 #[.iface 54 (.pointer (some ⟨g, 0, none⟩))] := by rw [hWe.out]; exact HB.kept ((Fr.refl [] _).alloc _) (by simp)
      have KT := put_fn_w S0.out HIW m c HBW HN hlk
      rw [hnx.out] at KT
      replace KT := Lib.hid KT
      clear hnx HIW HBW HB
      go_upto_region 4 with fail
      rw [← hWe.out]
      generalize wr.heap.size = bm at *
      have z0 : W.cell? ⟨bm, 0, none⟩ = _ := BW.cell 0
      have z1 : W.cell? ⟨bm, 1, none⟩ = _ := BW.cell 1
      have z2 : W.cell? ⟨bm, 2, none⟩ = _ := BW.cell 2
      go_wp2_with fail
      refine KT.out.mono ?_
      rintro e w2 ⟨rfl, F2, s2⟩
      have S2 := Lib.hid (hok.out.trans (hfr.out _ _ _ s2))
      clear s2 KT hok
      go_wp2_with fail
      go_roundw
      case rel => exact ⟨k + 1, F2, by omega, by go_num, S2⟩
      case measure => simp [intOf]; omega
    · obtain rfl : k = n := by omega
      have d1 : decide ((k : Int) < (k : Int)) = false := decide_eq_false (by omega)
      have e1 : Hid (Ev.n k :: (l.take k).flatMap (fun x => evF x) = evFs l) := Lib.hid (by rw [hn.out, List.take_length]; simp only [evMs, evOs, evFs, evCs, List.flatMap_map, List.length_map])
      rw [e1.out] at hok
      go_wp2_with fail
      go_end0
      exact ⟨rfl, Fk, hok.out⟩

set_option maxRecDepth 100000 in
theorem puts_str_t {w0 : World} {g : Nat} {I : List Nat → List Ev → World → Prop} (S : Sink 121 122 g w0 I) {F : List Nat} {evs : List Ev} {w : World} (h : I F evs w) (A : Option Addr) (c : Nat) (l : List ByteArray) (hr : Rd w0 A (l.map Value.string)) (hl0 : evs.length + (evL l).length ≤ MX) :
    Calls Try.prog 47 #[.iface 66 (.pointer (some ⟨g, 0, none⟩)), .slice A l.length c, .func (.method "weft/record.text") #[.iface 66 (.pointer (some ⟨g, 0, none⟩))] #[]] w (SPost I F (evs ++ evL l) w) := by
  have hl : evs.length + l.length + 1 ≤ MX := by simpa [evL, Nat.add_assoc] using hl0
  have hm : l.length ≤ 20000000 := by unfold MX at hl; omega
  have KN := Lib.hid (S.num (l.length : Int) h (by omega))
  have S0 := Lib.hid S
  have HR := Lib.hid hr
  obtain ⟨n, hn⟩ : ∃ n, Hid (n = l.length) := ⟨_, Lib.hid rfl⟩
  rw [← hn.out] at KN hl hm ⊢
  clear S hr h hl0
  go_enter Try.func47, Try.ntmps47
  go_wp2_with fail
  refine KN.out.mono ?_
  rintro e w1 ⟨rfl, F1, s1⟩
  have S1 : Hid (St I w F F1 (evs ++ (Ev.n n :: (l.take 0).map Ev.t)) w1) := Lib.hid s1
  clear s1 KN
  go_wp2_with fail
  go_loopw [7, 14] (fun a i wr => ∃ (k : Nat) (F' : List Nat), k ≤ n ∧ i = .int .i64 k ∧ Hid (St I w F F' (evs ++ (Ev.n n :: (l.take k).map Ev.t)) wr)) (fun _ i _ => n - (intOf i).toNat)
  case atStart => exact ⟨0, F1, by omega, rfl, S1⟩
  case round =>
    obtain ⟨k, Fk, hk, rfl, hok⟩ := hrel
    clear S1
    by_cases hkl : k < n
    · have d1 : decide ((k : Int) < (n : Int)) = true := decide_eq_true (by omega)
      have hkx : k < l.length := by rw [← hn.out]; exact hkl
      obtain ⟨b, off, rfl, hlt, hc⟩ := HR.out (by rw [List.length_map]; omega)
      have c2 : wr.cell? ⟨b, off + k, none⟩ = some (.string l[k]) := by
        have e := hc k (by rw [List.length_map]; exact hkx)
        rw [List.getElem_map] at e
        exact S0.out.cell hok.out.i hlt e
      have KT := Lib.hid (S0.out.txt l[k] hok.out.i (by rw [List.length_append, List.length_cons, List.length_map, List.length_take]; omega))
      have hnx : Hid (evs ++ (Ev.n n :: (l.take k).map Ev.t) ++ [Ev.t l[k]] = evs ++ (Ev.n n :: (l.take (k + 1)).map Ev.t)) := Lib.hid (by rw [(List.take_append_getElem hkx).symm]; simp only [List.map_append, List.map_cons, List.map_nil, List.append_assoc, List.cons_append])
      rw [hnx.out] at KT
      clear hc hnx
      generalize l[k] = x at *
      go_wp2_with fail
      refine KT.out.mono ?_
      rintro e w2 ⟨rfl, F2, s2⟩
      have S2 := Lib.hid (hok.out.trans s2)
      clear s2 KT hok c2
      go_wp2_with fail
      go_roundw
      case rel => exact ⟨k + 1, F2, by omega, by go_num, S2⟩
      case measure => simp [intOf]; omega
    · obtain rfl : k = n := by omega
      have d1 : decide ((k : Int) < (k : Int)) = false := decide_eq_false (by omega)
      have e1 : Hid (Ev.n k :: (l.take k).map Ev.t = evL l) := Lib.hid (by rw [hn.out, List.take_length]; rfl)
      rw [e1.out] at hok
      go_wp2_with fail
      go_end0
      exact ⟨rfl, Fk, hok.out⟩

set_option maxRecDepth 100000 in
theorem put_mk_t {w0 : World} {g : Nat} {I : List Nat → List Ev → World → Prop} (S : Sink 121 122 g w0 I) {F : List Nat} {evs : List Ev} {w : World} (h : I F evs w) (m : Mk) (c : Nat) (hb : Box w c 104 #[.iface 66 (.pointer (some ⟨g, 0, none⟩))]) (hc : c ∉ F) (hl : evs.length + (evM m).length ≤ MX) :
    Calls Try.prog 51 #[.agg #[.int .i64 m.at_, .string m.tag], .pointer (some ⟨c, 0, none⟩)] w (SPost I F (evs ++ evM m) w) := by
  have e0 : evs ++ evM m = ((evs ++ [Ev.n m.at_]) ++ [Ev.t m.tag]) := by simp [evM, evO, evF, evC]
  have hl2 : ((evs ++ [Ev.n m.at_]) ++ [Ev.t m.tag]).length ≤ MX := by rw [← e0, List.length_append]; exact hl
  rw [e0]
  have hW := S.alloc h (.cells #[.int .i64 m.at_, .string m.tag] 98)
  have B1 := Box.new w 98 #[.int .i64 m.at_, .string m.tag]
  have hn1 : w.heap.size ∉ F := fun hx => by have := S.lt h _ hx; omega
  have B0 : Box (w.alloc (.cells #[.int .i64 m.at_, .string m.tag] 98)) c 104 #[.iface 66 (.pointer (some ⟨g, 0, none⟩))] := hb.kept ((Fr.refl [] w).alloc _) (by simp)
  have S0 := Lib.hid S
  obtain ⟨W, hWe⟩ : ∃ W, Hid (W = w.alloc (.cells #[.int .i64 m.at_, .string m.tag] 98)) := ⟨_, Lib.hid rfl⟩
  have hfin : Hid (∀ F' e w', St I W F F' e w' → St I w F F' e w') := Lib.hid (by rw [hWe.out]; exact fun _ _ _ => St.from_alloc)
  rw [← hWe.out] at hW B0 B1
  have HN : Hid (∀ F' e w', St I W F F' e w' → c ∉ F') := Lib.hid (fun _ _ _ s => s.nin hc B0.lt)
  have HB : Hid (∀ F' e w', St I W F F' e w' → Box w' c 104 #[.iface 66 (.pointer (some ⟨g, 0, none⟩))] ∧ Box w' w.heap.size 98 #[.int .i64 m.at_, .string m.tag]) := Lib.hid (fun _ _ _ s => ⟨s.box B0 hc, s.box B1 hn1⟩)
  have T0 := Lib.hid (St.start hW)
  have E0 := Lib.hid e0
  clear hW B0 B1 S h hb e0
  go_enter Try.func51, Try.ntmps51
  go_upto_region 1 with fail
  rw [← hWe.out]
  generalize w.heap.size = bm at *
  have y0 : W.cell? ⟨c, 0, none⟩ = some (.iface 66 (.pointer (some ⟨g, 0, none⟩))) := (HB.out _ _ _ T0.out).1.cell 0
  have y1 : W.cell? ⟨bm, 0, none⟩ = some (.int .i64 m.at_) := (HB.out _ _ _ T0.out).2.cell 0
  have K1 := Lib.hid (S0.out.num m.at_ T0.out.i (by clear E0; simp only [List.length_append, List.length_cons, List.length_nil] at hl2 ⊢; omega))
  go_wp2_with fail
  refine K1.out.mono ?_
  rintro e w1 ⟨rfl, F1, s1⟩
  have T1 := Lib.hid (T0.out.trans s1)
  clear s1 y0 y1 K1 T0
  have y0 : w1.cell? ⟨c, 0, none⟩ = some (.iface 66 (.pointer (some ⟨g, 0, none⟩))) := (HB.out _ _ _ T1.out).1.cell 0
  have y1 : w1.cell? ⟨bm, 1, none⟩ = some (.string m.tag) := (HB.out _ _ _ T1.out).2.cell 1
  have K2 := Lib.hid (S0.out.txt m.tag T1.out.i (by clear E0; simp only [List.length_append, List.length_cons, List.length_nil] at hl2 ⊢; omega))
  go_wp2_with fail
  refine K2.out.mono ?_
  rintro e w2 ⟨rfl, F2, s2⟩
  have T2 := Lib.hid (T1.out.trans s2)
  clear s2 y0 y1 K2 T1
  go_wp2_with fail
  go_end0
  exact ⟨rfl, F2, hfin.out _ _ _ T2.out⟩

set_option maxRecDepth 100000 in
theorem puts_mk_t {w0 : World} {g : Nat} {I : List Nat → List Ev → World → Prop} (S : Sink 121 122 g w0 I) {F : List Nat} {evs : List Ev} {w : World} (h : I F evs w) (A : Option Addr) (ac : Nat) (l : List Mk) (hr : Tbl w0 A 2 (l.map mkRow)) (c : Nat) (hb : Box w c 104 #[.iface 66 (.pointer (some ⟨g, 0, none⟩))]) (hc : c ∉ F) (hl0 : evs.length + (evMs l).length ≤ MX) :
    Calls Try.prog 50 #[.iface 66 (.pointer (some ⟨g, 0, none⟩)), .slice A l.length ac, .func (.func 51) #[] #[.pointer (some ⟨c, 0, none⟩)]] w (SPost I F (evs ++ evMs l) w) := by
  have hl1 : evs.length + (l.flatMap (fun x => evM x)).length + 1 ≤ MX := by simpa [evMs, evOs, evFs, evCs, Nat.add_assoc, List.flatMap_map] using hl0
  have hm : l.length ≤ 20000000 := by
    have e1 : l.length ≤ (l.flatMap (fun x => evM x)).length := flat_ge _ (fun x => by simp [evM, evO, evF, evC]) l
    unfold MX at hl1
    omega
  have KN := Lib.hid (S.num (l.length : Int) h (by omega))
  have S0 := Lib.hid S
  have HR := Lib.hid hr
  have HB := Lib.hid (fun F' e w' (s : St I w F F' e w') => s.box hb hc)
  have HN := Lib.hid (fun F' e w' (s : St I w F F' e w') => s.nin hc hb.lt)
  obtain ⟨n, hn⟩ : ∃ n, Hid (n = l.length) := ⟨_, Lib.hid rfl⟩
  rw [← hn.out] at KN hm ⊢
  clear S hr h hl0 hb hc
  go_enter Try.func50, Try.ntmps50
  go_wp2_with fail
  refine KN.out.mono ?_
  rintro e w1 ⟨rfl, F1, s1⟩
  have S1 : Hid (St I w F F1 (evs ++ (Ev.n n :: (l.take 0).flatMap (fun x => evM x))) w1) := Lib.hid s1
  clear s1 KN
  go_wp2_with fail
  go_loopw [7, 14] (fun a i wr => ∃ (k : Nat) (F' : List Nat), k ≤ n ∧ i = .int .i64 k ∧ Hid (St I w F F' (evs ++ (Ev.n n :: (l.take k).flatMap (fun x => evM x))) wr)) (fun _ i _ => n - (intOf i).toNat)
  case atStart => exact ⟨0, F1, by omega, rfl, S1⟩
  case round =>
    obtain ⟨k, Fk, hk, rfl, hok⟩ := hrel
    clear S1
    by_cases hkl : k < n
    · have d1 : decide ((k : Int) < (n : Int)) = true := decide_eq_true (by omega)
      have hkx : k < l.length := by rw [← hn.out]; exact hkl
      obtain ⟨b, off, rfl, hlt, c0, c1⟩ := tbl_mk HR.out hkx
      replace HB := HB.out _ _ _ hok.out
      replace HN := HN.out _ _ _ hok.out
      have hlk : (evs ++ (Ev.n n :: (l.take k).flatMap (fun x => evM x))).length + (evM l[k]).length ≤ MX := by
        have := flat_at (fun x => evM x) l k hkx
        rw [List.length_append, List.length_cons]
        try dsimp only at this
        omega
      have hnx : Hid (evs ++ (Ev.n n :: (l.take k).flatMap (fun x => evM x)) ++ evM l[k] = evs ++ (Ev.n n :: (l.take (k + 1)).flatMap (fun x => evM x))) := Lib.hid (by rw [flat_next _ _ _ hkx]; simp only [List.append_assoc, List.cons_append])
      replace c0 := S0.out.cell hok.out.i (show b < w0.heap.size from hlt) c0
      replace c1 := S0.out.cell hok.out.i (show b < w0.heap.size from hlt) c1
      clear hlt
      generalize l[k] = m at *
      obtain ⟨W, hWe⟩ : ∃ W, Hid (W = wr.alloc (.cells #[.int .i64 m.at_, .string m.tag] 98)) := ⟨_, Lib.hid rfl⟩
      have BW : Box W wr.heap.size 98 #[.int .i64 m.at_, .string m.tag] := by rw [hWe.out]; exact Box.new _ _ _
      have hfr : Hid (∀ F' e w', St I W Fk F' e w' → St I wr Fk F' e w') := Lib.hid (by rw [hWe.out]; exact fun _ _ _ => St.from_alloc)
      have HIW : I Fk (evs ++ (Ev.n n :: (l.take k).flatMap (fun x => evM x))) W := by rw [hWe.out]; exact S0.out.alloc hok.out.i _
      have HBW : Box W c 104 #[.iface 66 (.pointer (some ⟨g, 0, none⟩))] := by rw [hWe.out]; exact HB.kept ((Fr.refl [] _).alloc _) (by simp)
      have KT := put_mk_t S0.out HIW m c HBW HN hlk
      rw [hnx.out] at KT
      replace KT := Lib.hid KT
      clear hnx HIW HBW HB
      go_upto_region 4 with fail
      rw [← hWe.out]
      generalize wr.heap.size = bm at *
      have z0 : W.cell? ⟨bm, 0, none⟩ = _ := BW.cell 0
      have z1 : W.cell? ⟨bm, 1, none⟩ = _ := BW.cell 1
      go_wp2_with fail
      refine KT.out.mono ?_
      rintro e w2 ⟨rfl, F2, s2⟩
      have S2 := Lib.hid (hok.out.trans (hfr.out _ _ _ s2))
      clear s2 KT hok
      go_wp2_with fail
      go_roundw
      case rel => exact ⟨k + 1, F2, by omega, by go_num, S2⟩
      case measure => simp [intOf]; omega
    · obtain rfl : k = n := by omega
      have d1 : decide ((k : Int) < (k : Int)) = false := decide_eq_false (by omega)
      have e1 : Hid (Ev.n k :: (l.take k).flatMap (fun x => evM x) = evMs l) := Lib.hid (by rw [hn.out, List.take_length]; simp only [evMs, evOs, evFs, evCs, List.flatMap_map, List.length_map])
      rw [e1.out] at hok
      go_wp2_with fail
      go_end0
      exact ⟨rfl, Fk, hok.out⟩

set_option maxRecDepth 100000 in
theorem put_obj_t {w0 : World} {g : Nat} {I : List Nat → List Ev → World → Prop} (S : Sink 121 122 g w0 I) {F : List Nat} {evs : List Ev} {w : World} (h : I F evs w) (o : SO) (mA : Option Addr) (mc : Nat) (hr : Tbl w0 mA 2 (o.marks.map mkRow)) (c : Nat) (hb : Box w c 104 #[.iface 66 (.pointer (some ⟨g, 0, none⟩))]) (hc : c ∉ F) (hl : evs.length + (evO o).length ≤ MX) :
    Calls Try.prog 49 #[.agg #[.string o.name, .string o.kinds, .slice mA o.marks.length mc], .pointer (some ⟨c, 0, none⟩)] w (SPost I F (evs ++ evO o) w) := by
  have e0 : evs ++ evO o = (((evs ++ [Ev.t o.name]) ++ [Ev.t o.kinds]) ++ evMs o.marks) := by simp [evM, evO, evF, evC]
  have hl2 : (((evs ++ [Ev.t o.name]) ++ [Ev.t o.kinds]) ++ evMs o.marks).length ≤ MX := by rw [← e0, List.length_append]; exact hl
  rw [e0]
  have hW := S.alloc h (.cells #[.string o.name, .string o.kinds, .slice mA o.marks.length mc] 76)
  have B1 := Box.new w 76 #[.string o.name, .string o.kinds, .slice mA o.marks.length mc]
  have hn1 : w.heap.size ∉ F := fun hx => by have := S.lt h _ hx; omega
  have B0 : Box (w.alloc (.cells #[.string o.name, .string o.kinds, .slice mA o.marks.length mc] 76)) c 104 #[.iface 66 (.pointer (some ⟨g, 0, none⟩))] := hb.kept ((Fr.refl [] w).alloc _) (by simp)
  have S0 := Lib.hid S
  obtain ⟨W, hWe⟩ : ∃ W, Hid (W = w.alloc (.cells #[.string o.name, .string o.kinds, .slice mA o.marks.length mc] 76)) := ⟨_, Lib.hid rfl⟩
  have hfin : Hid (∀ F' e w', St I W F F' e w' → St I w F F' e w') := Lib.hid (by rw [hWe.out]; exact fun _ _ _ => St.from_alloc)
  rw [← hWe.out] at hW B0 B1
  have HN : Hid (∀ F' e w', St I W F F' e w' → c ∉ F') := Lib.hid (fun _ _ _ s => s.nin hc B0.lt)
  have HB : Hid (∀ F' e w', St I W F F' e w' → Box w' c 104 #[.iface 66 (.pointer (some ⟨g, 0, none⟩))] ∧ Box w' w.heap.size 76 #[.string o.name, .string o.kinds, .slice mA o.marks.length mc]) := Lib.hid (fun _ _ _ s => ⟨s.box B0 hc, s.box B1 hn1⟩)
  have T0 := Lib.hid (St.start hW)
  have E0 := Lib.hid e0
  clear hW B0 B1 S h hb e0
  go_enter Try.func49, Try.ntmps49
  go_upto_region 1 with fail
  rw [← hWe.out]
  generalize w.heap.size = bm at *
  have y0 : W.cell? ⟨c, 0, none⟩ = some (.iface 66 (.pointer (some ⟨g, 0, none⟩))) := (HB.out _ _ _ T0.out).1.cell 0
  have y1 : W.cell? ⟨bm, 0, none⟩ = some (.string o.name) := (HB.out _ _ _ T0.out).2.cell 0
  have K1 := Lib.hid (S0.out.txt o.name T0.out.i (by clear E0; simp only [List.length_append, List.length_cons, List.length_nil] at hl2 ⊢; omega))
  go_wp2_with fail
  refine K1.out.mono ?_
  rintro e w1 ⟨rfl, F1, s1⟩
  have T1 := Lib.hid (T0.out.trans s1)
  clear s1 y0 y1 K1 T0
  have y0 : w1.cell? ⟨c, 0, none⟩ = some (.iface 66 (.pointer (some ⟨g, 0, none⟩))) := (HB.out _ _ _ T1.out).1.cell 0
  have y1 : w1.cell? ⟨bm, 1, none⟩ = some (.string o.kinds) := (HB.out _ _ _ T1.out).2.cell 1
  have K2 := Lib.hid (S0.out.txt o.kinds T1.out.i (by clear E0; simp only [List.length_append, List.length_cons, List.length_nil] at hl2 ⊢; omega))
  go_wp2_with fail
  refine K2.out.mono ?_
  rintro e w2 ⟨rfl, F2, s2⟩
  have T2 := Lib.hid (T1.out.trans s2)
  clear s2 y0 y1 K2 T1
  have y0 : w2.cell? ⟨c, 0, none⟩ = some (.iface 66 (.pointer (some ⟨g, 0, none⟩))) := (HB.out _ _ _ T2.out).1.cell 0
  have y1 : w2.cell? ⟨bm, 2, none⟩ = some (.slice mA o.marks.length mc) := (HB.out _ _ _ T2.out).2.cell 2
  have K3 := Lib.hid (puts_mk_t S0.out T2.out.i mA mc o.marks hr c (HB.out _ _ _ T2.out).1 (HN.out _ _ _ T2.out) (by clear E0; simp only [List.length_append, List.length_cons, List.length_nil] at hl2 ⊢; omega))
  go_wp2_with fail
  refine K3.out.mono ?_
  rintro e w3 ⟨rfl, F3, s3⟩
  have T3 := Lib.hid (T2.out.trans s3)
  clear s3 y0 y1 K3 T2
  go_wp2_with fail
  go_end0
  exact ⟨rfl, F3, hfin.out _ _ _ T3.out⟩

set_option maxRecDepth 100000 in
theorem puts_obj_t {w0 : World} {g : Nat} {I : List Nat → List Ev → World → Prop} (S : Sink 121 122 g w0 I) {F : List Nat} {evs : List Ev} {w : World} (h : I F evs w) (A : Option Addr) (ac : Nat) (l : List MO) (hr : Tbl w0 A 3 (l.map MO.row)) (c : Nat) (hb : Box w c 104 #[.iface 66 (.pointer (some ⟨g, 0, none⟩))]) (hc : c ∉ F) (hxs : ∀ x ∈ l, MOk w0 x) (hl0 : evs.length + (evOs (l.map (·.o))).length ≤ MX) :
    Calls Try.prog 48 #[.iface 66 (.pointer (some ⟨g, 0, none⟩)), .slice A l.length ac, .func (.func 49) #[] #[.pointer (some ⟨c, 0, none⟩)]] w (SPost I F (evs ++ evOs (l.map (·.o))) w) := by
  have hl1 : evs.length + (l.flatMap (fun x => evO x.o)).length + 1 ≤ MX := by simpa [evMs, evOs, evFs, evCs, Nat.add_assoc, List.flatMap_map] using hl0
  have hm : l.length ≤ 20000000 := by
    have e1 : l.length ≤ (l.flatMap (fun x => evO x.o)).length := flat_ge _ (fun x => by simp [evM, evO, evF, evC]) l
    unfold MX at hl1
    omega
  have KN := Lib.hid (S.num (l.length : Int) h (by omega))
  have S0 := Lib.hid S
  have HR := Lib.hid hr
  have HB := Lib.hid (fun F' e w' (s : St I w F F' e w') => s.box hb hc)
  have HN := Lib.hid (fun F' e w' (s : St I w F F' e w') => s.nin hc hb.lt)
  obtain ⟨n, hn⟩ : ∃ n, Hid (n = l.length) := ⟨_, Lib.hid rfl⟩
  rw [← hn.out] at KN hm ⊢
  clear S hr h hl0 hb hc
  go_enter Try.func48, Try.ntmps48
  go_wp2_with fail
  refine KN.out.mono ?_
  rintro e w1 ⟨rfl, F1, s1⟩
  have S1 : Hid (St I w F F1 (evs ++ (Ev.n n :: (l.take 0).flatMap (fun x => evO x.o))) w1) := Lib.hid s1
  clear s1 KN
  go_wp2_with fail
  go_loopw [7, 14] (fun a i wr => ∃ (k : Nat) (F' : List Nat), k ≤ n ∧ i = .int .i64 k ∧ Hid (St I w F F' (evs ++ (Ev.n n :: (l.take k).flatMap (fun x => evO x.o))) wr)) (fun _ i _ => n - (intOf i).toNat)
  case atStart => exact ⟨0, F1, by omega, rfl, S1⟩
  case round =>
    obtain ⟨k, Fk, hk, rfl, hok⟩ := hrel
    clear S1
    by_cases hkl : k < n
    · have d1 : decide ((k : Int) < (n : Int)) = true := decide_eq_true (by omega)
      have hkx : k < l.length := by rw [← hn.out]; exact hkl
      obtain ⟨b, off, rfl, hlt, c0, c1, c2⟩ := tbl_obj HR.out hkx
      replace HB := HB.out _ _ _ hok.out
      replace HN := HN.out _ _ _ hok.out
      have hlk : (evs ++ (Ev.n n :: (l.take k).flatMap (fun x => evO x.o))).length + (evO l[k].o).length ≤ MX := by
        have := flat_at (fun x => evO x.o) l k hkx
        rw [List.length_append, List.length_cons]
        try dsimp only at this
        omega
      have hnx : Hid (evs ++ (Ev.n n :: (l.take k).flatMap (fun x => evO x.o)) ++ evO l[k].o = evs ++ (Ev.n n :: (l.take (k + 1)).flatMap (fun x => evO x.o))) := Lib.hid (by rw [flat_next _ _ _ hkx]; simp only [List.append_assoc, List.cons_append])
      have hx0 := hxs l[k] (List.getElem_mem hkx)
      replace c0 := S0.out.cell hok.out.i (show b < w0.heap.size from hlt) c0
      replace c1 := S0.out.cell hok.out.i (show b < w0.heap.size from hlt) c1
      replace c2 := S0.out.cell hok.out.i (show b < w0.heap.size from hlt) c2
      clear hlt
      generalize l[k] = x at *
      obtain ⟨⟨xn, xk, xm⟩, xA, xc⟩ := x
      dsimp only at *
      obtain ⟨W, hWe⟩ : ∃ W, Hid (W = wr.alloc (.cells #[.string xn, .string xk, .slice xA xm.length xc] 76)) := ⟨_, Lib.hid rfl⟩
      have BW : Box W wr.heap.size 76 #[.string xn, .string xk, .slice xA xm.length xc] := by rw [hWe.out]; exact Box.new _ _ _
      have hfr : Hid (∀ F' e w', St I W Fk F' e w' → St I wr Fk F' e w') := Lib.hid (by rw [hWe.out]; exact fun _ _ _ => St.from_alloc)
      have HIW : I Fk (evs ++ (Ev.n n :: (l.take k).flatMap (fun x => evO x.o))) W := by rw [hWe.out]; exact S0.out.alloc hok.out.i _
      have HBW : Box W c 104 #[.iface 66 (.pointer (some ⟨g, 0, none⟩))] := by rw [hWe.out]; exact HB.kept ((Fr.refl [] _).alloc _) (by simp)
      have KT := put_obj_t S0.out HIW ⟨xn, xk, xm⟩ xA xc hx0.m c HBW HN hlk
      rw [hnx.out] at KT
      replace KT := Lib.hid KT
      clear hnx HIW HBW HB
      go_upto_region 4 with fail
      rw [← hWe.out]
      generalize wr.heap.size = bm at *
      have z0 : W.cell? ⟨bm, 0, none⟩ = _ := BW.cell 0
      have z1 : W.cell? ⟨bm, 1, none⟩ = _ := BW.cell 1
      have z2 : W.cell? ⟨bm, 2, none⟩ = _ := BW.cell 2
      go_wp2_with fail
      refine KT.out.mono ?_
      rintro e w2 ⟨rfl, F2, s2⟩
      have S2 := Lib.hid (hok.out.trans (hfr.out _ _ _ s2))
      clear s2 KT hok
      go_wp2_with fail
      go_roundw
      case rel => exact ⟨k + 1, F2, by omega, by go_num, S2⟩
      case measure => simp [intOf]; omega
    · obtain rfl : k = n := by omega
      have d1 : decide ((k : Int) < (k : Int)) = false := decide_eq_false (by omega)
      have e1 : Hid (Ev.n k :: (l.take k).flatMap (fun x => evO x.o) = evOs (l.map (·.o))) := Lib.hid (by rw [hn.out, List.take_length]; simp only [evMs, evOs, evFs, evCs, List.flatMap_map, List.length_map])
      rw [e1.out] at hok
      go_wp2_with fail
      go_end0
      exact ⟨rfl, Fk, hok.out⟩

set_option maxRecDepth 100000 in
theorem put_fn_t {w0 : World} {g : Nat} {I : List Nat → List Ev → World → Prop} (S : Sink 121 122 g w0 I) {F : List Nat} {evs : List Ev} {w : World} (h : I F evs w) (o : SF) (c : Nat) (hb : Box w c 104 #[.iface 66 (.pointer (some ⟨g, 0, none⟩))]) (hc : c ∉ F) (hl : evs.length + (evF o).length ≤ MX) :
    Calls Try.prog 53 #[.agg #[.string o.name, .string o.kinds, .string o.ret], .pointer (some ⟨c, 0, none⟩)] w (SPost I F (evs ++ evF o) w) := by
  have e0 : evs ++ evF o = (((evs ++ [Ev.t o.name]) ++ [Ev.t o.kinds]) ++ [Ev.t o.ret]) := by simp [evM, evO, evF, evC]
  have hl2 : (((evs ++ [Ev.t o.name]) ++ [Ev.t o.kinds]) ++ [Ev.t o.ret]).length ≤ MX := by rw [← e0, List.length_append]; exact hl
  rw [e0]
  have hW := S.alloc h (.cells #[.string o.name, .string o.kinds, .string o.ret] 80)
  have B1 := Box.new w 80 #[.string o.name, .string o.kinds, .string o.ret]
  have hn1 : w.heap.size ∉ F := fun hx => by have := S.lt h _ hx; omega
  have B0 : Box (w.alloc (.cells #[.string o.name, .string o.kinds, .string o.ret] 80)) c 104 #[.iface 66 (.pointer (some ⟨g, 0, none⟩))] := hb.kept ((Fr.refl [] w).alloc _) (by simp)
  have S0 := Lib.hid S
  obtain ⟨W, hWe⟩ : ∃ W, Hid (W = w.alloc (.cells #[.string o.name, .string o.kinds, .string o.ret] 80)) := ⟨_, Lib.hid rfl⟩
  have hfin : Hid (∀ F' e w', St I W F F' e w' → St I w F F' e w') := Lib.hid (by rw [hWe.out]; exact fun _ _ _ => St.from_alloc)
  rw [← hWe.out] at hW B0 B1
  have HN : Hid (∀ F' e w', St I W F F' e w' → c ∉ F') := Lib.hid (fun _ _ _ s => s.nin hc B0.lt)
  have HB : Hid (∀ F' e w', St I W F F' e w' → Box w' c 104 #[.iface 66 (.pointer (some ⟨g, 0, none⟩))] ∧ Box w' w.heap.size 80 #[.string o.name, .string o.kinds, .string o.ret]) := Lib.hid (fun _ _ _ s => ⟨s.box B0 hc, s.box B1 hn1⟩)
  have T0 := Lib.hid (St.start hW)
  have E0 := Lib.hid e0
  clear hW B0 B1 S h hb e0
  go_enter Try.func53, Try.ntmps53
  go_upto_region 1 with fail
  rw [← hWe.out]
  generalize w.heap.size = bm at *
  have y0 : W.cell? ⟨c, 0, none⟩ = some (.iface 66 (.pointer (some ⟨g, 0, none⟩))) := (HB.out _ _ _ T0.out).1.cell 0
  have y1 : W.cell? ⟨bm, 0, none⟩ = some (.string o.name) := (HB.out _ _ _ T0.out).2.cell 0
  have K1 := Lib.hid (S0.out.txt o.name T0.out.i (by clear E0; simp only [List.length_append, List.length_cons, List.length_nil] at hl2 ⊢; omega))
  go_wp2_with fail
  refine K1.out.mono ?_
  rintro e w1 ⟨rfl, F1, s1⟩
  have T1 := Lib.hid (T0.out.trans s1)
  clear s1 y0 y1 K1 T0
  have y0 : w1.cell? ⟨c, 0, none⟩ = some (.iface 66 (.pointer (some ⟨g, 0, none⟩))) := (HB.out _ _ _ T1.out).1.cell 0
  have y1 : w1.cell? ⟨bm, 1, none⟩ = some (.string o.kinds) := (HB.out _ _ _ T1.out).2.cell 1
  have K2 := Lib.hid (S0.out.txt o.kinds T1.out.i (by clear E0; simp only [List.length_append, List.length_cons, List.length_nil] at hl2 ⊢; omega))
  go_wp2_with fail
  refine K2.out.mono ?_
  rintro e w2 ⟨rfl, F2, s2⟩
  have T2 := Lib.hid (T1.out.trans s2)
  clear s2 y0 y1 K2 T1
  have y0 : w2.cell? ⟨c, 0, none⟩ = some (.iface 66 (.pointer (some ⟨g, 0, none⟩))) := (HB.out _ _ _ T2.out).1.cell 0
  have y1 : w2.cell? ⟨bm, 2, none⟩ = some (.string o.ret) := (HB.out _ _ _ T2.out).2.cell 2
  have K3 := Lib.hid (S0.out.txt o.ret T2.out.i (by clear E0; simp only [List.length_append, List.length_cons, List.length_nil] at hl2 ⊢; omega))
  go_wp2_with fail
  refine K3.out.mono ?_
  rintro e w3 ⟨rfl, F3, s3⟩
  have T3 := Lib.hid (T2.out.trans s3)
  clear s3 y0 y1 K3 T2
  go_wp2_with fail
  go_end0
  exact ⟨rfl, F3, hfin.out _ _ _ T3.out⟩

set_option maxRecDepth 100000 in
theorem puts_fn_t {w0 : World} {g : Nat} {I : List Nat → List Ev → World → Prop} (S : Sink 121 122 g w0 I) {F : List Nat} {evs : List Ev} {w : World} (h : I F evs w) (A : Option Addr) (ac : Nat) (l : List SF) (hr : Tbl w0 A 3 (l.map fnRow)) (c : Nat) (hb : Box w c 104 #[.iface 66 (.pointer (some ⟨g, 0, none⟩))]) (hc : c ∉ F) (hl0 : evs.length + (evFs l).length ≤ MX) :
    Calls Try.prog 52 #[.iface 66 (.pointer (some ⟨g, 0, none⟩)), .slice A l.length ac, .func (.func 53) #[] #[.pointer (some ⟨c, 0, none⟩)]] w (SPost I F (evs ++ evFs l) w) := by
  have hl1 : evs.length + (l.flatMap (fun x => evF x)).length + 1 ≤ MX := by simpa [evMs, evOs, evFs, evCs, Nat.add_assoc, List.flatMap_map] using hl0
  have hm : l.length ≤ 20000000 := by
    have e1 : l.length ≤ (l.flatMap (fun x => evF x)).length := flat_ge _ (fun x => by simp [evM, evO, evF, evC]) l
    unfold MX at hl1
    omega
  have KN := Lib.hid (S.num (l.length : Int) h (by omega))
  have S0 := Lib.hid S
  have HR := Lib.hid hr
  have HB := Lib.hid (fun F' e w' (s : St I w F F' e w') => s.box hb hc)
  have HN := Lib.hid (fun F' e w' (s : St I w F F' e w') => s.nin hc hb.lt)
  obtain ⟨n, hn⟩ : ∃ n, Hid (n = l.length) := ⟨_, Lib.hid rfl⟩
  rw [← hn.out] at KN hm ⊢
  clear S hr h hl0 hb hc
  go_enter Try.func52, Try.ntmps52
  go_wp2_with fail
  refine KN.out.mono ?_
  rintro e w1 ⟨rfl, F1, s1⟩
  have S1 : Hid (St I w F F1 (evs ++ (Ev.n n :: (l.take 0).flatMap (fun x => evF x))) w1) := Lib.hid s1
  clear s1 KN
  go_wp2_with fail
  go_loopw [7, 14] (fun a i wr => ∃ (k : Nat) (F' : List Nat), k ≤ n ∧ i = .int .i64 k ∧ Hid (St I w F F' (evs ++ (Ev.n n :: (l.take k).flatMap (fun x => evF x))) wr)) (fun _ i _ => n - (intOf i).toNat)
  case atStart => exact ⟨0, F1, by omega, rfl, S1⟩
  case round =>
    obtain ⟨k, Fk, hk, rfl, hok⟩ := hrel
    clear S1
    by_cases hkl : k < n
    · have d1 : decide ((k : Int) < (n : Int)) = true := decide_eq_true (by omega)
      have hkx : k < l.length := by rw [← hn.out]; exact hkl
      obtain ⟨b, off, rfl, hlt, c0, c1, c2⟩ := tbl_fn HR.out hkx
      replace HB := HB.out _ _ _ hok.out
      replace HN := HN.out _ _ _ hok.out
      have hlk : (evs ++ (Ev.n n :: (l.take k).flatMap (fun x => evF x))).length + (evF l[k]).length ≤ MX := by
        have := flat_at (fun x => evF x) l k hkx
        rw [List.length_append, List.length_cons]
        try dsimp only at this
        omega
      have hnx : Hid (evs ++ (Ev.n n :: (l.take k).flatMap (fun x => evF x)) ++ evF l[k] = evs ++ (Ev.n n :: (l.take (k + 1)).flatMap (fun x => evF x))) := Lib.hid (by rw [flat_next _ _ _ hkx]; simp only [List.append_assoc, List.cons_append])
      replace c0 := S0.out.cell hok.out.i (show b < w0.heap.size from hlt) c0
      replace c1 := S0.out.cell hok.out.i (show b < w0.heap.size from hlt) c1
      replace c2 := S0.out.cell hok.out.i (show b < w0.heap.size from hlt) c2
      clear hlt
      generalize l[k] = m at *
      obtain ⟨W, hWe⟩ : ∃ W, Hid (W = wr.alloc (.cells #[.string m.name, .string m.kinds, .string m.ret] 80)) := ⟨_, Lib.hid rfl⟩
      have BW : Box W wr.heap.size 80 #[.string m.name, .string m.kinds, .string m.ret] := by rw [hWe.out]; exact Box.new _ _ _
      have hfr : Hid (∀ F' e w', St I W Fk F' e w' → St I wr Fk F' e w') := Lib.hid (by rw [hWe.out]; exact fun _ _ _ => St.from_alloc)
      have HIW : I Fk (evs ++ (Ev.n n :: (l.take k).flatMap (fun x => evF x))) W := by rw [hWe.out]; exact S0.out.alloc hok.out.i _
      have HBW : Box W c 104 #[.iface 66 (.pointer (some ⟨g, 0, none⟩))] := by rw [hWe.out]; exact HB.kept ((Fr.refl [] _).alloc _) (by simp)
      have KT := put_fn_t S0.out HIW m c HBW HN hlk
      rw [hnx.out] at KT
      replace KT := Lib.hid KT
      clear hnx HIW HBW HB
      go_upto_region 4 with fail
      rw [← hWe.out]
      generalize wr.heap.size = bm at *
      have z0 : W.cell? ⟨bm, 0, none⟩ = _ := BW.cell 0
      have z1 : W.cell? ⟨bm, 1, none⟩ = _ := BW.cell 1
      have z2 : W.cell? ⟨bm, 2, none⟩ = _ := BW.cell 2
      go_wp2_with fail
      refine KT.out.mono ?_
      rintro e w2 ⟨rfl, F2, s2⟩
      have S2 := Lib.hid (hok.out.trans (hfr.out _ _ _ s2))
      clear s2 KT hok
      go_wp2_with fail
      go_roundw
      case rel => exact ⟨k + 1, F2, by omega, by go_num, S2⟩
      case measure => simp [intOf]; omega
    · obtain rfl : k = n := by omega
      have d1 : decide ((k : Int) < (k : Int)) = false := decide_eq_false (by omega)
      have e1 : Hid (Ev.n k :: (l.take k).flatMap (fun x => evF x) = evFs l) := Lib.hid (by rw [hn.out, List.take_length]; simp only [evMs, evOs, evFs, evCs, List.flatMap_map, List.length_map])
      rw [e1.out] at hok
      go_wp2_with fail
      go_end0
      exact ⟨rfl, Fk, hok.out⟩

end Go.Proofs.Ytdmmkjijgoiecaa.re
