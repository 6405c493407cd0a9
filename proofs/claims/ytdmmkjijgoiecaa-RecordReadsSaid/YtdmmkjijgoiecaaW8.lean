import Derived.Test.YtdmmkjijgoiecaaW7
import Derived.Test.YtdmmkjijgoiecaaWReY
import Derived.Test.YtdmmkjijgoiecaaWLReA
set_option linter.all false
/-
  record: RecordReads: the law.
-/
namespace Go.Proofs.Ytdmmkjijgoiecaa.re
open Go.RowKit Go.Sort Go.Shelf Go.Proofs.Ytdmmkjijgoiecaa.mem Go.Proofs.Ytdmmkjijgoiecaa.sy Go.Proofs.Ytdmmkjijgoiecaa.vr Go.Proofs.Ytdmmkjijgoiecaa.po Go.Proofs.Ytdmmkjijgoiecaa.inn

set_option maxRecDepth 100000 in
set_option maxHeartbeats 4000000 in
theorem law_reads (A : Option Addr) (cap : Nat) (l : List (List UInt8)) (b : ByteArray) (w : World) (hl : Rd w A (l.map encStr)) (hm : l.length ≤ maxLen) (hb : b.size ≤ maxLen) (hlx : ∀ x ∈ l, x.length ≤ maxLen) :
    Calls Try.prog 4 #[.slice A l.length cap, .string b] w (WkP w) := by
  have KT := Lib.hid (greatT_any w A cap l hl hm)
  have KO := Lib.hid (fun (h : l.length ≤ 60) => rof_any w A cap l hl (by omega))
  have KP := Lib.hid (fun (w2 : World) (pA : Option Addr) (pc : Nat) (hp : Rd w2 pA ((rsS l).map encStr)) (h : (rsS l).length ≤ 1000000) => pof_s w2 pA pc l hp h)
  have hml : ∀ x ∈ rsS l, x.length ≤ maxLen := fun x hx => hlx x ((mem_rsS l x).1 hx)
  have KR := Lib.hid (fun (w2 : World) (pb : Nat) (pA : Option Addr) (pc : Nat) (hp : Pl w2 pb pA pc (rsS l)) (h : (rsS l).length ≤ 1000000) => read_any hp h hml hb)
  have KQ := Lib.hid (fun (w2 : World) (pA : Option Addr) (pc : Nat) (hp : Rd w2 pA ((rsS l).map encStr)) (h : (rsS l).length ≤ 1000000) => qread_any (pc := pc) hp h hml hb)
  have hSL := Lib.hid (rdS_len (rsS l) b)
  have hrl := Lib.hid (rs_len l)
  unfold maxLen at hm hb
  clear hl hlx hml
  generalize rdS (rsS l) b = V at *
  generalize rdE (rsS l) b = E at *
  unfold GTPost at KT
  unfold inn.IPost at KO
  unfold OfPost at KP
  unfold RDP at KR KQ
  unfold WkP
  go_enter Try.func4, Try.ntmps4
  go_wp2_with fail
  refine KT.out.mono ?_
  rintro e w1 ⟨r1, rfl, rfl, hr1⟩
  replace hr1 := Lib.hid hr1
  clear KT
  rcases r1 with _ | _
  rotate_left
  · clear KO KP KR KQ
    go_wp2_with fail
    go_ret
    exact ⟨rfl, Below.refl _ _⟩
  obtain ⟨hl60, _⟩ := hr1.out rfl
  clear hr1
  by_cases h3 : 3000 < b.size
  · have d1 : decide ((3000 : Int) < (b.size : Int)) = true := decide_eq_true (by omega)
    clear KO KP KR KQ
    go_wp2_with fail
    go_ret
    exact ⟨rfl, Below.refl _ _⟩
  have d1 : decide ((3000 : Int) < (b.size : Int)) = false := decide_eq_false (by omega)
  have hr6 : (rsS l).length ≤ 1000000 := by have := hrl.out; omega
  have K1 := Lib.hid (KO.out hl60)
  clear KO
  go_wp2_with fail
  refine K1.out.mono ?_
  rintro e w2 ⟨pA, pc, rfl, sp, b2⟩
  have B2 := Lib.hid b2
  have RP := Lib.hid (fun (w3 : World) (x : Below w2.heap.size w2 w3) => sp.rd.below x)
  have K2 := Lib.hid (KP.out w2 pA pc sp.rd hr6)
  clear sp b2 K1 KP
  go_wp2_with fail
  refine K2.out.mono ?_
  rintro e w3 ⟨pb, pA2, pc2, rfl, pl, b3⟩
  have L3 := Lib.hid b3
  have K3 := Lib.hid (KR.out w3 pb pA2 pc2 pl hr6)
  clear pl b3 K2 KR
  go_wp2_with fail
  refine K3.out.mono ?_
  rintro e w4 ⟨u, rfl, hu, su, b4⟩
  have L4 := Lib.hid (L3.out.trans (b4.mono L3.out.size))
  have SU := Lib.hid su
  have hU := Lib.hid hu
  clear su hu b4 K3 L3
  unfold MU.val MU.row
  go_upto_region 5 with fail
  have Bx := Lib.hid (Box.new w4 29 #[.string u.name, .slice u.gA u.gives.length u.gc, .slice u.wA u.wants.length u.wc, .slice u.kA u.keeps.length u.kc, .slice u.s.oA u.s.os.length u.s.oc, .slice u.s.fA u.s.fs.length u.s.fc, .slice u.s.cA u.s.cs.length u.s.cc])
  have LA := Lib.hid (L4.out.alloc L4.out.size (.cells #[.string u.name, .slice u.gA u.gives.length u.gc, .slice u.wA u.wants.length u.wc, .slice u.kA u.keeps.length u.kc, .slice u.s.oA u.s.os.length u.s.oc, .slice u.s.fA u.s.fs.length u.s.fc, .slice u.s.cA u.s.cs.length u.s.cc] 29))
  have SUa := Lib.hid (SU.out.below ((Below.refl w4.heap.size w4).alloc (Nat.le_refl _) (.cells #[.string u.name, .slice u.gA u.gives.length u.gc, .slice u.wA u.wants.length u.wc, .slice u.kA u.keeps.length u.kc, .slice u.s.oA u.s.os.length u.s.oc, .slice u.s.fA u.s.fs.length u.s.fc, .slice u.s.cA u.s.cs.length u.s.cc] 29)))
  generalize w4.alloc (.cells #[.string u.name, .slice u.gA u.gives.length u.gc, .slice u.wA u.wants.length u.wc, .slice u.kA u.keeps.length u.kc, .slice u.s.oA u.s.os.length u.s.oc, .slice u.s.fA u.s.fs.length u.s.fc, .slice u.s.cA u.s.cs.length u.s.cc] 29) = w5 at *
  generalize w4.heap.size = xb at *
  clear SU L4
  have K4 := Lib.hid (KQ.out w5 pA pc (RP.out w5 LA.out) hr6)
  clear KQ
  go_wp2_with fail
  refine K4.out.mono ?_
  rintro e w6 ⟨v, rfl, hv, sv, b6⟩
  have L6 := Lib.hid (LA.out.trans (b6.mono LA.out.size))
  have SU6 := Lib.hid (SUa.out.below b6)
  have Bx6 := Lib.hid (Bx.out.kept (Fr.of_below b6 []) (by simp))
  have SV := Lib.hid sv
  have hUV := Lib.hid (hU.out.trans hv.symm)
  have hSU := Lib.hid (show SuL u.su by rw [hU.out]; exact hSL.out)
  clear sv hv b6 K4 LA SUa Bx hU hSL
  unfold MU.val MU.row
  go_upto_region 6 with fail
  have By := Lib.hid (Box.new w6 29 #[.string v.name, .slice v.gA v.gives.length v.gc, .slice v.wA v.wants.length v.wc, .slice v.kA v.keeps.length v.kc, .slice v.s.oA v.s.os.length v.s.oc, .slice v.s.fA v.s.fs.length v.s.fc, .slice v.s.cA v.s.cs.length v.s.cc])
  have fa := (Below.refl w6.heap.size w6).alloc (Nat.le_refl _) (.cells #[.string v.name, .slice v.gA v.gives.length v.gc, .slice v.wA v.wants.length v.wc, .slice v.kA v.keeps.length v.kc, .slice v.s.oA v.s.os.length v.s.oc, .slice v.s.fA v.s.fs.length v.s.fc, .slice v.s.cA v.s.cs.length v.s.cc] 29)
  have L7 := Lib.hid (L6.out.trans (fa.mono L6.out.size))
  have SU7 := Lib.hid (SU6.out.below fa)
  have SV7 := Lib.hid (SV.out.below fa)
  have Bx7 := Lib.hid (Bx6.out.kept (Fr.of_below fa []) (by simp))
  clear fa SU6 SV Bx6 L6
  generalize w6.alloc (.cells #[.string v.name, .slice v.gA v.gives.length v.gc, .slice v.wA v.wants.length v.wc, .slice v.kA v.keeps.length v.kc, .slice v.s.oA v.s.os.length v.s.oc, .slice v.s.fA v.s.fs.length v.s.fc, .slice v.s.cA v.s.cs.length v.s.cc] 29) = w7 at *
  generalize w6.heap.size = yb at *
  have K5 := Lib.hid (same24_any u v w7 SU7.out SV7.out hUV.out hSU.out)
  unfold MU.val MU.row BPost at K5
  have x0 := Bx7.out.cell 0
  have x1 := Bx7.out.cell 1
  have x2 := Bx7.out.cell 2
  have x3 := Bx7.out.cell 3
  have x4 := Bx7.out.cell 4
  have x5 := Bx7.out.cell 5
  have x6 := Bx7.out.cell 6
  have y0 := By.out.cell 0
  have y1 := By.out.cell 1
  have y2 := By.out.cell 2
  have y3 := By.out.cell 3
  have y4 := By.out.cell 4
  have y5 := By.out.cell 5
  have y6 := By.out.cell 6
  simp only [List.getElem?_toArray, List.getElem?_cons_zero, List.getElem?_cons_succ] at x0 x1 x2 x3 x4 x5 x6 y0 y1 y2 y3 y4 y5 y6
  have s1 : (E == E) = true := by simp
  clear SU7 SV7 Bx7 By hUV hSU
  go_wp2_with fail
  refine K5.out.mono ?_
  rintro e w8 ⟨rfl, b8⟩
  have L8 := Lib.hid (B2.out.trans ((L7.out.trans (b8.mono L7.out.size)).mono B2.out.size))
  have KW := Lib.hid (works_any w8)
  unfold WkP at KW
  clear b8 K5 x0 x1 x2 x3 x4 x5 x6 y0 y1 y2 y3 y4 y5 y6
  go_wp2_with fail
  refine KW.out.mono ?_
  rintro e w9 ⟨rfl, b9⟩
  have L9 := Lib.hid (L8.out.trans (b9.mono L8.out.size))
  clear b9 KW
  go_wp2_with fail
  go_ret
  exact ⟨rfl, L9.out⟩
end Go.Proofs.Ytdmmkjijgoiecaa.re

/-
  record: RecordReads: of arguments as they come in.
-/
namespace Go.Proofs.Ytdmmkjijgoiecaa.re
open Go.RowKit Go.ChangeShapes Go.WideShapes Go.Proofs.Ytdmmkjijgoiecaa.mem Go.Proofs.Ytdmmkjijgoiecaa.sy

set_option maxRecDepth 100000 in
theorem pf_reads (H : Type) (enc : TypeId × Value → H) (W : World) {base : Nat} (v : Value) (d : DataW H) (p : List MemPlace) (k : DataW.Trod enc Try.prog W 0 (fun _ => true) true 22 v d p) (o : Value.okWide Try.prog W .any base 22 v) (hw : ∀ n ∈ d.weights Try.prog 22, n ≤ reachBytes)
    (a : ByteArray) (wa : a.size ≤ maxLen) (ra : a.size ≤ reachBytes) :
    Calls Try.prog 4 #[v, .string a] W (WkP W) := by
  obtain ⟨A, cap, l, rfl, hr, hl, hs⟩ := txts_of k o hw
  have h := law_reads A cap (l.map tx) a W hr (by rw [List.length_map]; exact hl) wa (fun x hx => by
    obtain ⟨y, hy, rfl⟩ := List.mem_map.1 hx
    rw [tx_len]
    exact hs y hy)
  rw [List.length_map] at h
  exact h
end Go.Proofs.Ytdmmkjijgoiecaa.re
