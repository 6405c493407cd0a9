import Derived.Test.YtlkboeajkgbnaaaGreatDoorB30
import Derived.Test.YtlkboeajkgbnaaaGreatDoorB26
set_option linter.all false
set_option maxHeartbeats 4000000
namespace Go.Proofs.YtlkboeajkgbnaaaGreatDoor.re
open Go.RowKit Go.Proofs.YtlkboeajkgbnaaaGreatDoor.mem Go.Proofs.YtlkboeajkgbnaaaGreatDoor.sy
def RB : Nat := 140737488351232
theorem ad_eq {a b : Int} (h1 : 0 ≤ a) (h2 : a ≤ 1000000000000000000) (h3 : 0 ≤ b) (h4 : b ≤ 1000000000000000000) : ad a b = a + b := by unfold ad wrap64; omega
theorem ten_eq {a : Int} (h1 : 0 ≤ a) (h2 : a ≤ 140737488351232) : ten a = 10 * a := by unfold ten wrap64; omega
theorem gTxt_ge : ∀ (l : List ByteArray) (k : Nat) (n : Int), 0 ≤ n → n + ((100 - k : Nat) : Int) * 140737488351232 ≤ 1000000000000000000 → (∀ s ∈ l, s.size ≤ RB) → n ≤ gTxt l k n
  | [], k, n, _, _, _ => by unfold gTxt; omega
  | m :: r, k, n, h0, h1, hs => by
    unfold gTxt
    split
    · have hm := hs m (List.mem_cons_self ..)
      unfold RB at hm
      have e : ad n m.size = n + m.size := ad_eq h0 (by omega) (by omega) (by omega)
      have := gTxt_ge r (k + 1) (ad n m.size) (by omega) (by rw [e]; omega) (fun s h => hs s (List.mem_cons_of_mem _ h))
      omega
    · omega
theorem oN_ge {o : SO} {n : Int} (h : OB RB o) (h0 : 0 ≤ n) (h1 : n ≤ 60000) : n + 10 * o.marks.length ≤ oN o n := by
  have hn := h.n
  have hk := h.k
  have hl := h.l
  unfold RB at hn hk hl
  unfold oN
  have e1 : ad n o.name.size = n + o.name.size := ad_eq h0 (by omega) (by omega) (by omega)
  have e2 : ad (n + o.name.size) o.kinds.size = n + o.name.size + o.kinds.size := ad_eq (by omega) (by omega) (by omega) (by omega)
  have e3 : ten o.marks.length = 10 * o.marks.length := ten_eq (by omega) (by omega)
  have e4 : ad (n + o.name.size + o.kinds.size) (10 * o.marks.length) = n + o.name.size + o.kinds.size + 10 * o.marks.length := ad_eq (by omega) (by omega) (by omega) (by omega)
  have e : o1 o n = n + o.name.size + o.kinds.size + 10 * o.marks.length := by unfold o1; rw [e1, e2, e3, e4]
  have := gTxt_ge (o.marks.map (·.tag)) 0 (o1 o n) (by omega) (by omega) (fun s hs => by
    obtain ⟨m, hm, rfl⟩ := List.mem_map.1 hs
    exact h.m m hm)
  omega
theorem f1_ge {f : SF} {n : Int} (h : FB RB f) (h0 : 0 ≤ n) (h1 : n ≤ 60000) : n ≤ f1 f n := by
  have hn := h.n
  have hk := h.k
  have hr := h.r
  unfold RB at hn hk hr
  have e1 : ad n f.name.size = n + f.name.size := ad_eq h0 (by omega) (by omega) (by omega)
  have e2 : ad (n + f.name.size) f.kinds.size = n + f.name.size + f.kinds.size := ad_eq (by omega) (by omega) (by omega) (by omega)
  have e3 : ad (n + f.name.size + f.kinds.size) f.ret.size = n + f.name.size + f.kinds.size + f.ret.size := ad_eq (by omega) (by omega) (by omega) (by omega)
  unfold f1
  rw [e1, e2, e3]
  omega
theorem cN_ge {c : SC} {n : Int} (h : CB RB c) (h0 : 0 ≤ n) (h1 : n ≤ 60000) : n + 10 * c.args.length ≤ cN c n := by
  have ha := h.a
  have hb := h.b
  have ht := h.t
  have hl := h.l
  unfold RB at ha hb ht hl
  unfold cN
  have e1 : ad n c.a.size = n + c.a.size := ad_eq h0 (by omega) (by omega) (by omega)
  have e2 : ad (n + c.a.size) c.b.size = n + c.a.size + c.b.size := ad_eq (by omega) (by omega) (by omega) (by omega)
  have e3 : ad (n + c.a.size + c.b.size) c.tag.size = n + c.a.size + c.b.size + c.tag.size := ad_eq (by omega) (by omega) (by omega) (by omega)
  have e4 : ten c.args.length = 10 * c.args.length := ten_eq (by omega) (by omega)
  have e5 : ad (n + c.a.size + c.b.size + c.tag.size) (10 * c.args.length) = n + c.a.size + c.b.size + c.tag.size + 10 * c.args.length := ad_eq (by omega) (by omega) (by omega) (by omega)
  have e : c1 c n = n + c.a.size + c.b.size + c.tag.size + 10 * c.args.length := by unfold c1; rw [e1, e2, e3, e4, e5]
  have := gTxt_ge c.args 0 (c1 c n) (by omega) (by omega) (fun s hs => h.g s hs)
  omega
theorem gAll_in {α : Type} {f : α → Int → Int} {B : Int} {Q : α → Prop} (hf : ∀ x n, Q x → 0 ≤ n → n ≤ 60000 → n ≤ f x n) (hB : B ≤ 60000) : ∀ (l : List α) (n z : Int), (∀ x ∈ l, Q x) → 0 ≤ n → n ≤ 60000 → gAll f B l n = some z → (0 ≤ z ∧ z ≤ 60000) ∧ ∀ x ∈ l, ∃ k : Int, 0 ≤ k ∧ k ≤ 60000 ∧ f x k ≤ B
  | [], n, z, _, h0, h1, h => by
    unfold gAll at h
    obtain rfl := Option.some.inj h
    exact ⟨⟨h0, h1⟩, fun x hx => by cases hx⟩
  | x :: r, n, z, hq, h0, h1, h => by
    unfold gAll at h
    split at h
    · cases h
    · have hx := hf x n (hq x (List.mem_cons_self ..)) h0 h1
      obtain ⟨a, b⟩ := gAll_in hf hB r (f x n) z (fun y hy => hq y (List.mem_cons_of_mem _ hy)) (by omega) (by omega) h
      refine ⟨a, fun y hy => ?_⟩
      rcases List.mem_cons.1 hy with rfl | hy
      · exact ⟨n, h0, h1, by omega⟩
      · exact b y hy
structure Sml (s : SS) : Prop where
  o : s.objs.length ≤ 80
  f : s.fns.length ≤ 80
  c : s.cons.length ≤ 80
  m : ∀ x ∈ s.objs, x.marks.length ≤ 3000
  a : ∀ x ∈ s.cons, x.args.length ≤ 6000
theorem sml_of {s : SS} (ho : ∀ x ∈ s.objs, OB RB x) (hf : ∀ x ∈ s.fns, FB RB x) (hc : ∀ x ∈ s.cons, CB RB x) (h : greatB s 80 = false) : Sml s := by
  unfold greatB at h
  simp only [Bool.or_eq_false_iff, decide_eq_false_iff_not, Int.not_lt] at h
  obtain ⟨h1, h2, h3, h4⟩ := h
  rcases e1 : gAll oN 30000 s.objs 0 with _ | n1
  · rw [e1] at h4; simp at h4
  rw [e1] at h4
  simp only [Option.bind_some] at h4
  rcases e2 : gAll f1 30000 s.fns n1 with _ | n2
  · rw [e2] at h4; simp at h4
  rw [e2] at h4
  simp only [Option.bind_some] at h4
  rcases e3 : gAll cN 60000 s.cons n2 with _ | n3
  · rw [e3] at h4; simp at h4
  obtain ⟨a1, b1⟩ := gAll_in (Q := OB RB) (fun x n q h0 h1 => by have := oN_ge q h0 h1; omega) (by omega) s.objs 0 n1 ho (by omega) (by omega) e1
  obtain ⟨a2, b2⟩ := gAll_in (Q := FB RB) (fun x n q h0 h1 => f1_ge q h0 h1) (by omega) s.fns n1 n2 hf a1.1 a1.2 e2
  obtain ⟨a3, b3⟩ := gAll_in (Q := CB RB) (fun x n q h0 h1 => by have := cN_ge q h0 h1; omega) (by omega) s.cons n2 n3 hc a2.1 a2.2 e3
  refine ⟨by omega, by omega, by omega, fun x hx => ?_, fun x hx => ?_⟩
  · obtain ⟨k, k0, k1, k2⟩ := b1 x hx
    have := oN_ge (ho x hx) k0 k1
    omega
  · obtain ⟨k, k0, k1, k2⟩ := b3 x hx
    have := cN_ge (hc x hx) k0 k1
    omega
structure SmlU (u : SU) : Prop where
  n : u.name.size ≤ 100
  s : Sml u.sys
  g : u.gives.length ≤ 60 ∧ ∀ x ∈ u.gives, x.size ≤ 100
  w : u.wants.length ≤ 60 ∧ ∀ x ∈ u.wants, x.size ≤ 100
  k : u.keeps.length ≤ 200 ∧ ∀ x ∈ u.keeps, x.size ≤ 100
end Go.Proofs.YtlkboeajkgbnaaaGreatDoor.re
namespace Go.Proofs.YtlkboeajkgbnaaaGreatDoor.re
open Go.RowKit Go.Shelf Go.Proofs.YtlkboeajkgbnaaaGreatDoor.mem Go.Proofs.YtlkboeajkgbnaaaGreatDoor.sy
def GTB (w : World) (l : List ByteArray) (N : Nat) (e : Ending) (w' : World) : Prop := ∃ r, e = .returned (.bool r) ∧ w = w' ∧ (r = false → l.length ≤ N ∧ ∀ s ∈ l, s.size ≤ 100)
theorem tx_len (s : ByteArray) : (tx s).length = s.size := by
  exact Array.length_toList
theorem gtb {w : World} {l : List ByteArray} {N : Nat} {e : Ending} {w' : World} (h : GTPost w (l.map tx) N e w') : GTB w l N e w' := by
  obtain ⟨r, h1, h2, h3⟩ := h
  refine ⟨r, h1, h2, fun hr => ?_⟩
  obtain ⟨h4, h5⟩ := h3 hr
  rw [List.length_map] at h4
  exact ⟨h4, fun s hs => by have := h5 (tx s) (List.mem_map.2 ⟨s, hs, rfl⟩); rwa [tx_len] at this⟩
theorem greatT_b (w : World) (A : Option Addr) (cap : Nat) (l : List ByteArray) (h : Rd w A (l.map Value.string)) (hm : l.length ≤ maxLen) :
    Calls Tryz.prog 23 #[.slice A l.length cap] w (GTB w l 60) := by
  have k := greatT_any w A cap (l.map tx) (by rw [map_tx]; exact h) (by rw [List.length_map]; exact hm)
  rw [List.length_map] at k
  exact k.mono (fun e w' h => gtb h)
theorem greatK_b (w : World) (A : Option Addr) (cap : Nat) (l : List ByteArray) (h : Rd w A (l.map Value.string)) (hm : l.length ≤ maxLen) (h2 : l.length ≤ 200) :
    Calls Tryz.prog 24 #[.slice A l.length cap] w (GTB w l 200) := by
  have k := greatK_any w A cap (l.map tx) (by rw [map_tx]; exact h) (by rw [List.length_map]; exact hm) (by rw [List.length_map]; exact h2)
  rw [List.length_map] at k
  exact k.mono (fun e w' h => gtb h)
def GSP (u : MU) (w : World) (e : Ending) (w' : World) : Prop := ∃ r, e = .returned (.bool r) ∧ Below w.heap.size w w' ∧ (r = false → SmlU u.su)
theorem SumB.small {u : MU} (h : SumB RB u) (hg : greatB u.s.sys 80 = false) : Sml u.s.sys :=
  sml_of (fun x hx => by
    obtain ⟨y, hy, rfl⟩ := List.mem_map.1 hx
    exact h.os y hy) (fun x hx => h.fs x hx) (fun x hx => by
    obtain ⟨y, hy, rfl⟩ := List.mem_map.1 hx
    exact h.cs y hy) hg
set_option maxRecDepth 100000 in
theorem great_su (u : MU) (w : World) (hs : SumM w u) (hb : SumB RB u) : Calls Tryz.prog 11 #[u.val] w (GSP u w) := by
  obtain ⟨W, hWe⟩ : ∃ W, Hid (W = w.alloc (.cells u.row 43)) := ⟨_, Lib.hid rfl⟩
  have B : Box W w.heap.size 43 u.row := by rw [hWe.out]; exact Box.new _ _ _
  have b0 : Below w.heap.size w W := by rw [hWe.out]; exact (Below.refl _ _).alloc (Nat.le_refl _) _
  have hwz : w.heap.size < W.heap.size := B.lt
  have hsW : SumM W u := hs.below b0
  have HB : Hid (∀ w2, Below W.heap.size W w2 → SumM w2 u ∧ Box w2 w.heap.size 43 u.row ∧ Below w.heap.size w w2) := Lib.hid (fun w2 b => ⟨hsW.below b, B.kept (Fr.of_below b []) (by simp), b0.trans (b.mono b0.size)⟩)
  have KG := Lib.hid (great_any u.s 80 W hsW.sr)
  have KT1 := Lib.hid (fun (w2 : World) (b : Below W.heap.size W w2) => greatT_b w2 u.gA u.gc u.gives (HB.out w2 b).1.gr hb.g.1)
  have KT2 := Lib.hid (fun (w2 : World) (b : Below W.heap.size W w2) => greatT_b w2 u.wA u.wc u.wants (HB.out w2 b).1.wr hb.w.1)
  have KT3 := Lib.hid (fun (w2 : World) (b : Below W.heap.size W w2) (h2 : u.keeps.length ≤ 200) => greatK_b w2 u.kA u.kc u.keeps (HB.out w2 b).1.kr hb.k.1 h2)
  have HS : Hid (u.name.size ≤ 100 → greatB u.s.sys 80 = false → (u.gives.length ≤ 60 ∧ ∀ s ∈ u.gives, s.size ≤ 100) → (u.wants.length ≤ 60 ∧ ∀ s ∈ u.wants, s.size ≤ 100) → (u.keeps.length ≤ 200 ∧ ∀ s ∈ u.keeps, s.size ≤ 100) → SmlU u.su) := Lib.hid (fun h1 h2 h3 h4 h5 => ⟨h1, hb.small h2, h3, h4, h5⟩)
  have HC : Hid (∀ w2, Below W.heap.size W w2 → w2.cell? ⟨w.heap.size, 0, none⟩ = some (.string u.name) ∧ w2.cell? ⟨w.heap.size, 1, none⟩ = some (.slice u.gA u.gives.length u.gc) ∧ w2.cell? ⟨w.heap.size, 2, none⟩ = some (.slice u.wA u.wants.length u.wc) ∧ w2.cell? ⟨w.heap.size, 3, none⟩ = some (.slice u.kA u.keeps.length u.kc) ∧ w2.cell? ⟨w.heap.size, 4, none⟩ = some (.slice u.s.oA u.s.os.length u.s.oc) ∧ w2.cell? ⟨w.heap.size, 5, none⟩ = some (.slice u.s.fA u.s.fs.length u.s.fc) ∧ w2.cell? ⟨w.heap.size, 6, none⟩ = some (.slice u.s.cA u.s.cs.length u.s.cc)) := Lib.hid (fun w2 b => by
    have x := (HB.out w2 b).2.1
    exact ⟨x.cell 0, x.cell 1, x.cell 2, x.cell 3, x.cell 4, x.cell 5, x.cell 6⟩)
  have HE : Hid (∀ w2, Below W.heap.size W w2 → Below w.heap.size w w2) := Lib.hid (fun w2 b => (HB.out w2 b).2.2)
  have R0 := Lib.hid (Below.refl W.heap.size W)
  have HTr : Hid (∀ w2 w3, Below W.heap.size W w2 → Below w2.heap.size w2 w3 → Below W.heap.size W w3) := Lib.hid (fun w2 w3 a b => a.trans (b.mono a.size))
  have Bd := Lib.hid hb
  obtain ⟨x0, x1, x2, x3, x4, x5, x6⟩ := HC.out W R0.out
  unfold BPost at KG
  unfold MS.val at KG
  clear hs hb hsW HB B b0 hwz
  generalize greatB u.s.sys 80 = g at *
  unfold GSP MU.val
  unfold MU.row at hWe ⊢
  by_cases h1 : 100 < u.name.size
  · have d1 : decide ((100 : Int) < (u.name.size : Int)) = true := decide_eq_true (by omega)
    have E := Lib.hid (HE.out W R0.out)
    clear KG KT1 KT2 KT3 HS HC HE HTr Bd
    go_enter Tryz.func11, Tryz.ntmps11
    go_upto_region 1 with fail
    rw [← hWe.out]
    go_wp2_with fail
    go_ret
    exact ⟨true, rfl, E.out, fun h => by cases h⟩
  · have d1 : decide ((100 : Int) < (u.name.size : Int)) = false := decide_eq_false (by omega)
    have h1' := Lib.hid (Nat.le_of_not_lt h1)
    clear h1
    go_enter Tryz.func11, Tryz.ntmps11
    go_upto_region 1 with fail
    rw [← hWe.out]
    go_wp2_with fail
    refine KG.out.mono ?_
    rintro e w2 ⟨rfl, b2⟩
    have B2 := Lib.hid b2
    clear b2 x0 x1 x2 x3 x4 x5 x6 KG
    obtain ⟨x0, x1, x2, x3, x4, x5, x6⟩ := HC.out w2 B2.out
    rcases hg : g with _ | _
    · subst hg
      have K1 := Lib.hid (KT1.out w2 B2.out)
      unfold GTB at K1
      go_wp2_with fail
      refine K1.out.mono ?_
      rintro e w3 ⟨r1, rfl, rfl, p1⟩
      replace p1 := Lib.hid p1
      clear K1
      rcases hr1 : r1 with _ | _
      · replace p1 := Lib.hid (p1.out hr1)
        subst hr1
        have K1 := Lib.hid (KT2.out w2 B2.out)
        unfold GTB at K1
        go_wp2_with fail
        refine K1.out.mono ?_
        rintro e w3 ⟨r2, rfl, rfl, p2⟩
        replace p2 := Lib.hid p2
        clear K1
        rcases hr2 : r2 with _ | _
        · replace p2 := Lib.hid (p2.out hr2)
          subst hr2
          by_cases h5 : 200 < u.keeps.length
          · have d5 : decide ((200 : Int) < (u.keeps.length : Int)) = true := decide_eq_true (by omega)
            have E := Lib.hid (HE.out w2 B2.out)
            clear KT1 KT2 KT3 HS HC HE HTr Bd
            go_wp2_with fail
            go_ret
            exact ⟨true, rfl, E.out, fun h => by cases h⟩
          · have d5 : decide ((200 : Int) < (u.keeps.length : Int)) = false := decide_eq_false (by omega)
            have K1 := Lib.hid (KT3.out w2 B2.out (by omega))
            unfold GTB at K1
            go_wp2_with fail
            refine K1.out.mono ?_
            rintro e w3 ⟨r3, rfl, rfl, p3⟩
            have E := Lib.hid (HE.out w2 B2.out)
            replace p3 := Lib.hid p3
            clear K1 KT1 KT2 KT3 HC HE HTr Bd
            go_wp2_with fail
            go_ret
            exact ⟨r3, rfl, E.out, fun h => HS.out h1'.out (by simp) p1.out p2.out (p3.out h)⟩
        · subst hr2
          have E := Lib.hid (HE.out w2 B2.out)
          clear KT1 KT2 KT3 HS HC HE HTr Bd p1 p2
          go_wp2_with fail
          go_ret
          exact ⟨true, rfl, E.out, fun h => by cases h⟩
      · subst hr1
        have E := Lib.hid (HE.out w2 B2.out)
        clear KT1 KT2 KT3 HS HC HE HTr Bd p1
        go_wp2_with fail
        go_ret
        exact ⟨true, rfl, E.out, fun h => by cases h⟩
    · subst hg
      have E := Lib.hid (HE.out w2 B2.out)
      clear KT1 KT2 KT3 HS HC HE HTr Bd
      go_wp2_with fail
      go_ret
      exact ⟨true, rfl, E.out, fun h => by cases h⟩
end Go.Proofs.YtlkboeajkgbnaaaGreatDoor.re
namespace Go.Proofs.YtlkboeajkgbnaaaGreatDoor.ym
open Go.RowKit Go.Sort Go.Shelf Go.Proofs.YtlkboeajkgbnaaaGreatDoor.mem Go.Proofs.YtlkboeajkgbnaaaGreatDoor.sy Go.Proofs.YtlkboeajkgbnaaaGreatDoor.rng
open Go.Proofs.YtlkboeajkgbnaaaGreatDoor.re (tx SU MU SumM SumB SmlU RB GSP great_su)
open Go.Proofs.YtlkboeajkgbnaaaGreatDoor.sf (SumK)
open Go.Proofs.YtlkboeajkgbnaaaGreatDoor.nm (Tab tab_below)
attribute [local go_sem] Oper.semAt_some
structure SusB (w : World) (A : Option Addr) (l : List MU) : Prop where
  t : Tbl w A 7 (l.map rowS)
  k : ∀ u ∈ l, SumM w u
  b : ∀ u ∈ l, SumB RB u
theorem SusB.below {w w' : World} {A : Option Addr} {l : List MU} (h : SusB w A l) (hb : Below w.heap.size w w') : SusB w' A l := ⟨h.t.below hb, fun u hu => (h.k u hu).below hb, h.b⟩
theorem SusB.at_ {w : World} {A : Option Addr} {l : List MU} (h : SusB w A l) {k : Nat} (hk : k < l.length) : ∃ g off, A = some ⟨g, off, none⟩ ∧ g < w.heap.size ∧ ∀ i v, (rowS l[k])[i]? = some v → w.cell? ⟨g, off + k * 7 + i, none⟩ = some v := by
  obtain ⟨b, off, e, hl, hc⟩ := h.t (by rw [List.length_map]; omega)
  exact ⟨b, off, e, hl, fun i v hv => hc k (by rw [List.length_map]; exact hk) i v (by rw [List.getElem_map]; exact hv)⟩
theorem sumK_sml {w : World} {u : MU} (hm : SumM w u) (hs : SmlU u.su) : SumK w u := by
  have h1 : u.name.size ≤ 100 := hs.n
  have h2 : u.gives.length ≤ 60 ∧ ∀ x ∈ u.gives, x.size ≤ 100 := hs.g
  have h3 : u.wants.length ≤ 60 ∧ ∀ x ∈ u.wants, x.size ≤ 100 := hs.w
  have h4 : u.keeps.length ≤ 200 ∧ ∀ x ∈ u.keeps, x.size ≤ 100 := hs.k
  have h5 : u.s.os.length ≤ 80 := by have := hs.s.o; simpa [MU.su, MS.sys] using this
  have h6 : u.s.fs.length ≤ 80 := hs.s.f
  exact ⟨hm, by unfold maxLen; omega, by omega, by omega, by omega, by omega, fun s h => by have := h2.2 s h; unfold maxLen; omega, fun s h => by have := h3.2 s h; unfold maxLen; omega, fun s h => by have := h4.2 s h; unfold maxLen; omega⟩
theorem SusB.susM {w : World} {A : Option Addr} {l : List MU} (h : SusB w A l) (hs : ∀ u ∈ l, SmlU u.su) : SusM w A l :=
  ⟨h.t, fun u hu => sumK_sml (h.k u hu) (hs u hu), fun u hu => by
    have h5 : u.s.os.length ≤ 80 := by have := (hs u hu).s.o; simpa [MU.su, MS.sys] using this
    have h6 : u.s.fs.length ≤ 80 := (hs u hu).s.f
    omega⟩
def GAP (w : World) (l : List MU) (e : Ending) (w' : World) : Prop := ∃ r, e = .returned (.bool r) ∧ Below w.heap.size w w' ∧ (r = false → l.length ≤ 12 ∧ ∀ u ∈ l, SmlU u.su)
set_option maxRecDepth 100000 in
theorem greatAll_any (w : World) (A : Option Addr) (c : Nat) (l : List MU) (h : SusB w A l) (hl : l.length ≤ maxLen) :
    Calls Tryz.prog 5 #[.slice A l.length c] w (GAP w l) := by
  have HS := Lib.hid (fun (w2 : World) (b : Below w.heap.size w w2) => h.below b)
  have HG := Lib.hid (fun (w2 : World) (b : Below w.heap.size w w2) (u : MU) (hu : u ∈ l) => great_su u w2 ((h.below b).k u hu) ((h.below b).b u hu))
  have R0 := Lib.hid (Below.refl w.heap.size w)
  have hl2 := hl
  unfold maxLen at hl2
  unfold GAP
  clear h hl
  obtain ⟨n, hN⟩ : ∃ n, Hid (n = l.length) := ⟨_, Lib.hid rfl⟩
  rw [← hN.out] at hl2 ⊢
  by_cases h1 : 12 < n
  · have d1 : decide ((12 : Int) < (n : Int)) = true := decide_eq_true (by omega)
    clear HS HG
    go_enter Tryz.func5, Tryz.ntmps5
    go_wp2_with fail
    go_ret
    exact ⟨true, rfl, R0.out, (fun h => by cases h)⟩
  have d1 : decide ((12 : Int) < (n : Int)) = false := decide_eq_false (by omega)
  go_enter Tryz.func5, Tryz.ntmps5
  go_wp2_with fail
  go_loopw [3] (fun i wr => ∃ k : Nat, k ≤ n ∧ i = .int .i64 k ∧ Hid (Below w.heap.size w wr) ∧ Hid (∀ u ∈ l.take k, SmlU u.su)) (fun i _ => n - (intOf i).toNat)
  case atStart => exact ⟨0, by omega, rfl, R0, Lib.hid (by simp)⟩
  case round =>
    obtain ⟨k, hk, rfl, HB, HP⟩ := hrel
    rename World => wr
    by_cases hkl : k < n
    · have d2 : decide ((k : Int) < (n : Int)) = true := decide_eq_true (by omega)
      have hkx : k < l.length := by rw [← hN.out]; exact hkl
      obtain ⟨g, off, rfl, hg, hc⟩ := (HS.out wr HB.out).at_ hkx
      have KG := HG.out wr HB.out l[k] (List.getElem_mem hkx)
      have HN : Hid (SmlU l[k].su → ∀ u ∈ l.take (k + 1), SmlU u.su) := Lib.hid (fun hs u hu => by
        rw [List.take_succ_eq_append_getElem hkx] at hu
        rcases List.mem_append.1 hu with h | h
        · exact HP.out u h
        · rw [List.mem_singleton] at h; subst h; exact hs)
      generalize l[k] = u at *
      clear HG HS hkx
      unfold GSP at KG
      obtain ⟨nm, gA, gc, gs, wA, wc, ws, kA, kc, ks, ⟨oA, oc, os, fA, fc, fs, cA, cc, cs⟩⟩ := u
      unfold MU.val at KG
      unfold MU.row at KG
      unfold rowS at hc
      dsimp only at *
      generalize hgl : gs.length = gl at *
      generalize hwl : ws.length = wl at *
      generalize hkl2 : ks.length = kl at *
      generalize hol : os.length = ol at *
      generalize hfl : fs.length = fl at *
      generalize hcl : cs.length = cl at *
      clear hgl hwl hkl2 hol hfl hcl
      have c0 : wr.cell? ⟨g, off + k * 7, none⟩ = some (.string nm) := hc 0 _ rfl
      have c1 : wr.cell? ⟨g, off + k * 7 + 1, none⟩ = some (.slice gA gl gc) := hc 1 _ rfl
      have c2 : wr.cell? ⟨g, off + k * 7 + 2, none⟩ = some (.slice wA wl wc) := hc 2 _ rfl
      have c3 : wr.cell? ⟨g, off + k * 7 + 3, none⟩ = some (.slice kA kl kc) := hc 3 _ rfl
      have c4 : wr.cell? ⟨g, off + k * 7 + 4, none⟩ = some (.slice oA ol oc) := hc 4 _ rfl
      have c5 : wr.cell? ⟨g, off + k * 7 + 5, none⟩ = some (.slice fA fl fc) := hc 5 _ rfl
      have c6 : wr.cell? ⟨g, off + k * 7 + 6, none⟩ = some (.slice cA cl cc) := hc 6 _ rfl
      replace KG := Lib.hid KG
      clear hc
      go_wp2_with fail
      refine KG.out.mono ?_
      rintro e w2 ⟨r, rfl, b2, hr⟩
      have B2 := Lib.hid (HB.out.trans (b2.mono HB.out.size))
      clear b2 KG c0 c1 c2 c3 c4 c5 c6
      rcases r with _ | _
      · have HM := Lib.hid (HN.out (hr rfl))
        clear hr HN
        go_wp2_with fail
        go_roundw
        case rel => exact ⟨k + 1, by omega, by go_num, B2, HM⟩
        case measure => simp [intOf]; omega
      · clear hr HN
        go_wp2_with fail
        go_ret
        exact ⟨true, rfl, B2.out, (fun h => by cases h)⟩
    · obtain rfl : k = n := by omega
      have d2 : decide ((k : Int) < (k : Int)) = false := decide_eq_false (by omega)
      have HM : Hid (∀ u ∈ l, SmlU u.su) := Lib.hid (by
        have := HP.out
        rwa [List.take_of_length_le (by rw [← hN.out]; exact Nat.le_refl _)] at this)
      have HL : Hid (l.length ≤ 12) := Lib.hid (by rw [← hN.out]; omega)
      go_wp2_with fail
      go_ret
      exact ⟨false, rfl, HB.out, fun _ => ⟨by omega, HM.out⟩⟩
end Go.Proofs.YtlkboeajkgbnaaaGreatDoor.ym
namespace Go.Proofs.YtlkboeajkgbnaaaGreatDoor.ym
open Go.RowKit Go.Proofs.YtlkboeajkgbnaaaGreatDoor.mem Go.Proofs.YtlkboeajkgbnaaaGreatDoor.sy
theorem like_bool (a b : Use) : like a b = (sameF a.f b.f && ((a.o.name.toList == b.o.name.toList) && ((a.o.kinds.toList == b.o.kinds.toList) && eqMs a.o.marks b.o.marks))) := by
  rw [Bool.eq_iff_iff, like_iff]
  simp only [Bool.and_eq_true, sameF_iff, eqMs_iff, beq_iff_eq]
  constructor
  · rintro ⟨h1, h2⟩
    rw [h1, h2]
    exact ⟨rfl, rfl, rfl, rfl⟩
  · rintro ⟨h1, h2, h3, h4⟩
    refine ⟨?_, h1⟩
    rcases ha : a.o with ⟨n, k, m⟩
    rcases hb : b.o with ⟨n2, k2, m2⟩
    rw [ha, hb] at h2 h3 h4
    dsimp only at h2 h3 h4
    rw [ba_toList h2, ba_toList h3, h4]
set_option maxRecDepth 100000 in
theorem like_a (hf : HeldF) (hm : HeldM) (w : World) (x y : MUs) (hx : UOk w x) (hy : UOk w y) (h0 : sameF x.u.f y.u.f = false) :
    Calls Tryz.prog 44 #[x.val, y.val] w (BPost false w) := by
  obtain ⟨W, hWe⟩ : ∃ W, Hid (W = (w.alloc (.cells x.row.toArray 83)).alloc (.cells y.row.toArray 83)) := ⟨_, Lib.hid rfl⟩
  have hz : (w.alloc (.cells x.row.toArray 83)).heap.size = w.heap.size + 1 := Array.size_push _
  have b1 : Below w.heap.size w (w.alloc (.cells x.row.toArray 83)) := (Below.refl _ _).alloc (Nat.le_refl _) _
  have b0 : Below w.heap.size w W := by rw [hWe.out]; exact b1.alloc b1.size _
  have BX : Box W w.heap.size 83 x.row.toArray := by rw [hWe.out]; exact (Box.new w _ _).kept ((Fr.refl [] _).alloc _) (by simp)
  have BY : Box W (w.heap.size + 1) 83 y.row.toArray := by rw [hWe.out, ← hz]; exact Box.new _ _ _
  have KE := Lib.hid (eqmarks_any hm W x.A y.A x.c y.c x.u.o.marks y.u.o.marks (hx.m.below b0) (hy.m.below b0) hx.ml hy.ml)
  have FE := hf.eq x.u.f y.u.f
  have GU := hf.guard
  rw [h0] at FE
  have B0 := Lib.hid b0
  unfold BPost at KE ⊢
  have x3 : W.cell? ⟨w.heap.size, 3, none⟩ = some (.string x.u.o.name) := BX.cell 3
  have y3 : W.cell? ⟨w.heap.size + 1, 3, none⟩ = some (.string y.u.o.name) := BY.cell 3
  have x4 : W.cell? ⟨w.heap.size, 4, none⟩ = some (.string x.u.o.kinds) := BX.cell 4
  have y4 : W.cell? ⟨w.heap.size + 1, 4, none⟩ = some (.string y.u.o.kinds) := BY.cell 4
  have x5 : W.cell? ⟨w.heap.size, 5, none⟩ = some (.slice x.A x.u.o.marks.length x.c) := BX.cell 5
  have y5 : W.cell? ⟨w.heap.size + 1, 5, none⟩ = some (.slice y.A y.u.o.marks.length y.c) := BY.cell 5
  have x6 : W.cell? ⟨w.heap.size, 6, none⟩ = some (.string x.u.f.name) := BX.cell 6
  have y6 : W.cell? ⟨w.heap.size + 1, 6, none⟩ = some (.string y.u.f.name) := BY.cell 6
  have x7 : W.cell? ⟨w.heap.size, 7, none⟩ = some (.string x.u.f.kinds) := BX.cell 7
  have y7 : W.cell? ⟨w.heap.size + 1, 7, none⟩ = some (.string y.u.f.kinds) := BY.cell 7
  have x8 : W.cell? ⟨w.heap.size, 8, none⟩ = some (.string x.u.f.ret) := BX.cell 8
  have y8 : W.cell? ⟨w.heap.size + 1, 8, none⟩ = some (.string y.u.f.ret) := BY.cell 8
  unfold fnV at FE
  unfold MUs.val
  unfold MUs.row at hWe
  clear hx hy BX BY b0 b1 hf hm
  generalize hML : x.u.o.marks.length = ml at *
  generalize hMR : y.u.o.marks.length = mr at *
  generalize eqMs x.u.o.marks y.u.o.marks = q3 at *
  clear hML hMR
  go_enter Tryz.func44, Tryz.ntmps44
  go_upto_region 1 with fail
  rw [← hWe.out]
  try rw [hz]
  clear hz hWe
  generalize hbx : w.heap.size = bx at *
  replace hbx := Lib.hid hbx
  go_wp2_with fail
  go_ret
  exact ⟨rfl, by rw [hbx.out]; exact B0.out⟩
set_option maxRecDepth 100000 in
theorem like_b (hf : HeldF) (hm : HeldM) (w : World) (x y : MUs) (hx : UOk w x) (hy : UOk w y) (h0 : sameF x.u.f y.u.f = true) (h1 : (x.u.o.name.toList == y.u.o.name.toList) = false) :
    Calls Tryz.prog 44 #[x.val, y.val] w (BPost false w) := by
  obtain ⟨W, hWe⟩ : ∃ W, Hid (W = (w.alloc (.cells x.row.toArray 83)).alloc (.cells y.row.toArray 83)) := ⟨_, Lib.hid rfl⟩
  have hz : (w.alloc (.cells x.row.toArray 83)).heap.size = w.heap.size + 1 := Array.size_push _
  have b1 : Below w.heap.size w (w.alloc (.cells x.row.toArray 83)) := (Below.refl _ _).alloc (Nat.le_refl _) _
  have b0 : Below w.heap.size w W := by rw [hWe.out]; exact b1.alloc b1.size _
  have BX : Box W w.heap.size 83 x.row.toArray := by rw [hWe.out]; exact (Box.new w _ _).kept ((Fr.refl [] _).alloc _) (by simp)
  have BY : Box W (w.heap.size + 1) 83 y.row.toArray := by rw [hWe.out, ← hz]; exact Box.new _ _ _
  have KE := Lib.hid (eqmarks_any hm W x.A y.A x.c y.c x.u.o.marks y.u.o.marks (hx.m.below b0) (hy.m.below b0) hx.ml hy.ml)
  have FE := hf.eq x.u.f y.u.f
  have GU := hf.guard
  rw [h0] at FE
  have B0 := Lib.hid b0
  unfold BPost at KE ⊢
  have x3 : W.cell? ⟨w.heap.size, 3, none⟩ = some (.string x.u.o.name) := BX.cell 3
  have y3 : W.cell? ⟨w.heap.size + 1, 3, none⟩ = some (.string y.u.o.name) := BY.cell 3
  have x4 : W.cell? ⟨w.heap.size, 4, none⟩ = some (.string x.u.o.kinds) := BX.cell 4
  have y4 : W.cell? ⟨w.heap.size + 1, 4, none⟩ = some (.string y.u.o.kinds) := BY.cell 4
  have x5 : W.cell? ⟨w.heap.size, 5, none⟩ = some (.slice x.A x.u.o.marks.length x.c) := BX.cell 5
  have y5 : W.cell? ⟨w.heap.size + 1, 5, none⟩ = some (.slice y.A y.u.o.marks.length y.c) := BY.cell 5
  have x6 : W.cell? ⟨w.heap.size, 6, none⟩ = some (.string x.u.f.name) := BX.cell 6
  have y6 : W.cell? ⟨w.heap.size + 1, 6, none⟩ = some (.string y.u.f.name) := BY.cell 6
  have x7 : W.cell? ⟨w.heap.size, 7, none⟩ = some (.string x.u.f.kinds) := BX.cell 7
  have y7 : W.cell? ⟨w.heap.size + 1, 7, none⟩ = some (.string y.u.f.kinds) := BY.cell 7
  have x8 : W.cell? ⟨w.heap.size, 8, none⟩ = some (.string x.u.f.ret) := BX.cell 8
  have y8 : W.cell? ⟨w.heap.size + 1, 8, none⟩ = some (.string y.u.f.ret) := BY.cell 8
  unfold fnV at FE
  unfold MUs.val
  unfold MUs.row at hWe
  clear hx hy BX BY b0 b1 hf hm
  generalize hML : x.u.o.marks.length = ml at *
  generalize hMR : y.u.o.marks.length = mr at *
  generalize eqMs x.u.o.marks y.u.o.marks = q3 at *
  clear hML hMR
  go_enter Tryz.func44, Tryz.ntmps44
  go_upto_region 1 with fail
  rw [← hWe.out]
  try rw [hz]
  clear hz hWe
  generalize hbx : w.heap.size = bx at *
  replace hbx := Lib.hid hbx
  go_wp2_with fail
  go_ret
  exact ⟨rfl, by rw [hbx.out]; exact B0.out⟩
set_option maxRecDepth 100000 in
theorem like_c (hf : HeldF) (hm : HeldM) (w : World) (x y : MUs) (hx : UOk w x) (hy : UOk w y) (h0 : sameF x.u.f y.u.f = true) (h1 : (x.u.o.name.toList == y.u.o.name.toList) = true) (h2 : (x.u.o.kinds.toList == y.u.o.kinds.toList) = false) :
    Calls Tryz.prog 44 #[x.val, y.val] w (BPost false w) := by
  obtain ⟨W, hWe⟩ : ∃ W, Hid (W = (w.alloc (.cells x.row.toArray 83)).alloc (.cells y.row.toArray 83)) := ⟨_, Lib.hid rfl⟩
  have hz : (w.alloc (.cells x.row.toArray 83)).heap.size = w.heap.size + 1 := Array.size_push _
  have b1 : Below w.heap.size w (w.alloc (.cells x.row.toArray 83)) := (Below.refl _ _).alloc (Nat.le_refl _) _
  have b0 : Below w.heap.size w W := by rw [hWe.out]; exact b1.alloc b1.size _
  have BX : Box W w.heap.size 83 x.row.toArray := by rw [hWe.out]; exact (Box.new w _ _).kept ((Fr.refl [] _).alloc _) (by simp)
  have BY : Box W (w.heap.size + 1) 83 y.row.toArray := by rw [hWe.out, ← hz]; exact Box.new _ _ _
  have KE := Lib.hid (eqmarks_any hm W x.A y.A x.c y.c x.u.o.marks y.u.o.marks (hx.m.below b0) (hy.m.below b0) hx.ml hy.ml)
  have FE := hf.eq x.u.f y.u.f
  have GU := hf.guard
  rw [h0] at FE
  have B0 := Lib.hid b0
  unfold BPost at KE ⊢
  have x3 : W.cell? ⟨w.heap.size, 3, none⟩ = some (.string x.u.o.name) := BX.cell 3
  have y3 : W.cell? ⟨w.heap.size + 1, 3, none⟩ = some (.string y.u.o.name) := BY.cell 3
  have x4 : W.cell? ⟨w.heap.size, 4, none⟩ = some (.string x.u.o.kinds) := BX.cell 4
  have y4 : W.cell? ⟨w.heap.size + 1, 4, none⟩ = some (.string y.u.o.kinds) := BY.cell 4
  have x5 : W.cell? ⟨w.heap.size, 5, none⟩ = some (.slice x.A x.u.o.marks.length x.c) := BX.cell 5
  have y5 : W.cell? ⟨w.heap.size + 1, 5, none⟩ = some (.slice y.A y.u.o.marks.length y.c) := BY.cell 5
  have x6 : W.cell? ⟨w.heap.size, 6, none⟩ = some (.string x.u.f.name) := BX.cell 6
  have y6 : W.cell? ⟨w.heap.size + 1, 6, none⟩ = some (.string y.u.f.name) := BY.cell 6
  have x7 : W.cell? ⟨w.heap.size, 7, none⟩ = some (.string x.u.f.kinds) := BX.cell 7
  have y7 : W.cell? ⟨w.heap.size + 1, 7, none⟩ = some (.string y.u.f.kinds) := BY.cell 7
  have x8 : W.cell? ⟨w.heap.size, 8, none⟩ = some (.string x.u.f.ret) := BX.cell 8
  have y8 : W.cell? ⟨w.heap.size + 1, 8, none⟩ = some (.string y.u.f.ret) := BY.cell 8
  unfold fnV at FE
  unfold MUs.val
  unfold MUs.row at hWe
  clear hx hy BX BY b0 b1 hf hm
  generalize hML : x.u.o.marks.length = ml at *
  generalize hMR : y.u.o.marks.length = mr at *
  generalize eqMs x.u.o.marks y.u.o.marks = q3 at *
  clear hML hMR
  go_enter Tryz.func44, Tryz.ntmps44
  go_upto_region 1 with fail
  rw [← hWe.out]
  try rw [hz]
  clear hz hWe
  generalize hbx : w.heap.size = bx at *
  replace hbx := Lib.hid hbx
  go_wp2_with fail
  go_ret
  exact ⟨rfl, by rw [hbx.out]; exact B0.out⟩
set_option maxRecDepth 100000 in
theorem like_d (hf : HeldF) (hm : HeldM) (w : World) (x y : MUs) (hx : UOk w x) (hy : UOk w y) (h0 : sameF x.u.f y.u.f = true) (h1 : (x.u.o.name.toList == y.u.o.name.toList) = true) (h2 : (x.u.o.kinds.toList == y.u.o.kinds.toList) = true) :
    Calls Tryz.prog 44 #[x.val, y.val] w (BPost (eqMs x.u.o.marks y.u.o.marks) w) := by
  obtain ⟨W, hWe⟩ : ∃ W, Hid (W = (w.alloc (.cells x.row.toArray 83)).alloc (.cells y.row.toArray 83)) := ⟨_, Lib.hid rfl⟩
  have hz : (w.alloc (.cells x.row.toArray 83)).heap.size = w.heap.size + 1 := Array.size_push _
  have b1 : Below w.heap.size w (w.alloc (.cells x.row.toArray 83)) := (Below.refl _ _).alloc (Nat.le_refl _) _
  have b0 : Below w.heap.size w W := by rw [hWe.out]; exact b1.alloc b1.size _
  have BX : Box W w.heap.size 83 x.row.toArray := by rw [hWe.out]; exact (Box.new w _ _).kept ((Fr.refl [] _).alloc _) (by simp)
  have BY : Box W (w.heap.size + 1) 83 y.row.toArray := by rw [hWe.out, ← hz]; exact Box.new _ _ _
  have KE := Lib.hid (eqmarks_any hm W x.A y.A x.c y.c x.u.o.marks y.u.o.marks (hx.m.below b0) (hy.m.below b0) hx.ml hy.ml)
  have FE := hf.eq x.u.f y.u.f
  have GU := hf.guard
  rw [h0] at FE
  have B0 := Lib.hid b0
  unfold BPost at KE ⊢
  have x3 : W.cell? ⟨w.heap.size, 3, none⟩ = some (.string x.u.o.name) := BX.cell 3
  have y3 : W.cell? ⟨w.heap.size + 1, 3, none⟩ = some (.string y.u.o.name) := BY.cell 3
  have x4 : W.cell? ⟨w.heap.size, 4, none⟩ = some (.string x.u.o.kinds) := BX.cell 4
  have y4 : W.cell? ⟨w.heap.size + 1, 4, none⟩ = some (.string y.u.o.kinds) := BY.cell 4
  have x5 : W.cell? ⟨w.heap.size, 5, none⟩ = some (.slice x.A x.u.o.marks.length x.c) := BX.cell 5
  have y5 : W.cell? ⟨w.heap.size + 1, 5, none⟩ = some (.slice y.A y.u.o.marks.length y.c) := BY.cell 5
  have x6 : W.cell? ⟨w.heap.size, 6, none⟩ = some (.string x.u.f.name) := BX.cell 6
  have y6 : W.cell? ⟨w.heap.size + 1, 6, none⟩ = some (.string y.u.f.name) := BY.cell 6
  have x7 : W.cell? ⟨w.heap.size, 7, none⟩ = some (.string x.u.f.kinds) := BX.cell 7
  have y7 : W.cell? ⟨w.heap.size + 1, 7, none⟩ = some (.string y.u.f.kinds) := BY.cell 7
  have x8 : W.cell? ⟨w.heap.size, 8, none⟩ = some (.string x.u.f.ret) := BX.cell 8
  have y8 : W.cell? ⟨w.heap.size + 1, 8, none⟩ = some (.string y.u.f.ret) := BY.cell 8
  unfold fnV at FE
  unfold MUs.val
  unfold MUs.row at hWe
  clear hx hy BX BY b0 b1 hf hm
  generalize hML : x.u.o.marks.length = ml at *
  generalize hMR : y.u.o.marks.length = mr at *
  generalize eqMs x.u.o.marks y.u.o.marks = q3 at *
  clear hML hMR
  go_enter Tryz.func44, Tryz.ntmps44
  go_upto_region 1 with fail
  rw [← hWe.out]
  try rw [hz]
  clear hz hWe
  generalize hbx : w.heap.size = bx at *
  replace hbx := Lib.hid hbx
  go_wp2_with fail
  refine KE.out.mono ?_
  rintro e w2 ⟨rfl, b2⟩
  have B2 := Lib.hid (B0.out.trans (b2.mono (by have := B0.out.size; rw [hbx.out] at this; exact this)))
  clear b2 KE
  go_wp2_with fail
  go_ret
  exact ⟨rfl, by rw [hbx.out]; exact B2.out⟩
theorem like_any (hf : HeldF) (hm : HeldM) (w : World) (x y : MUs) (hx : UOk w x) (hy : UOk w y) :
    Calls Tryz.prog 44 #[x.val, y.val] w (BPost (like x.u y.u) w) := by
  rw [like_bool]
  rcases h0 : sameF x.u.f y.u.f with _ | _
  · exact like_a hf hm w x y hx hy h0
  rcases h1 : (x.u.o.name.toList == y.u.o.name.toList) with _ | _
  · exact like_b hf hm w x y hx hy h0 h1
  rcases h2 : (x.u.o.kinds.toList == y.u.o.kinds.toList) with _ | _
  · exact like_c hf hm w x y hx hy h0 h1 h2
  · exact like_d hf hm w x y hx hy h0 h1 h2
end Go.Proofs.YtlkboeajkgbnaaaGreatDoor.ym
namespace Go.Proofs.YtlkboeajkgbnaaaGreatDoor.ym
open Go.RowKit Go.Proofs.YtlkboeajkgbnaaaGreatDoor.mem Go.Proofs.YtlkboeajkgbnaaaGreatDoor.sy
open Go.Proofs.YtlkboeajkgbnaaaGreatDoor.re (tx SU MU SumM)
open Go.Proofs.YtlkboeajkgbnaaaGreatDoor.sf (map_tx enc_tx)
open Go.Proofs.YtlkboeajkgbnaaaGreatDoor.inn (rsS)
def symC (p : PS) : Int := if p.e0 then 8 else if p.e1 then 12 else if decide (p.giver.size = 0) && decide (p.wanted ≠ []) then 7 else 0
def fstU (l : List MUs) : Use := match l with | [] => ⟨⟨#[]⟩, false, false, oZ, fZ⟩ | x :: _ => x.u
noncomputable def psT (l : List MUs) (k : Nat) : PS := (l.take k).foldl (fun s x => psStep l.length (fstU l) s x.u) ⟨⟨#[]⟩, [], false, false⟩
theorem psT_succ (l : List MUs) {k : Nat} (hk : k < l.length) : psT l (k + 1) = psStep l.length (fstU l) (psT l k) l[k].u := by
  unfold psT
  rw [List.take_succ_eq_append_getElem hk, List.foldl_append]
  rfl
theorem psT_all (l : List MUs) : psT l l.length = psAll (l.map MUs.u).length (fstU l) (l.map MUs.u) := by
  unfold psT psAll
  rw [List.take_length, List.length_map, List.foldl_map]
structure SY (w0 : World) (nm giver : ByteArray) (A : Option Addr) (cap : Nat) (wants : List ByteArray) (e0 e1 : Bool) (w : World) : Prop where
  b0 : Box w w0.heap.size 33 #[.string ⟨#[]⟩, .string ⟨#[]⟩, .slice none 0 0]
  b1 : Box w (w0.heap.size + 1) 33 #[.string nm, .string giver, .slice A wants.length cap]
  b2 : Box w (w0.heap.size + 2) 90 #[.bool e0, .bool e1, .bool false]
  sg : Seg w 9 A cap (wants.map Value.string)
  wf : ∀ g ∈ blk A, w0.heap.size ≤ g
  on : Below w0.heap.size w0 w
section
variable {w0 w w' : World} {nm giver : ByteArray} {A : Option Addr} {cap : Nat} {wants : List ByteArray} {e0 e1 : Bool}
theorem SY.below (h : SY w0 nm giver A cap wants e0 e1 w) (hb : Below w.heap.size w w') : SY w0 nm giver A cap wants e0 e1 w' :=
  have f := Fr.of_below hb []
  ⟨h.b0.kept f (by simp), h.b1.kept f (by simp), h.b2.kept f (by simp), h.sg.kept f (by simp), h.wf, h.on.trans (hb.mono h.on.size)⟩
theorem SY.n1 (h : SY w0 nm giver A cap wants e0 e1 w) : w0.heap.size + 1 ∉ blk A := h.sg.ne_box h.b1 (by decide)
theorem SY.n2 (h : SY w0 nm giver A cap wants e0 e1 w) : w0.heap.size + 2 ∉ blk A := h.sg.ne_box h.b2 (by decide)
theorem SY.n0 (h : SY w0 nm giver A cap wants e0 e1 w) : w0.heap.size ∉ blk A := h.sg.ne_box h.b0 (by decide)
theorem SY.set0 (h : SY w0 nm giver A cap wants e0 e1 w) (b : Bool) : SY w0 nm giver A cap wants b e1 (w.setCell ⟨w0.heap.size + 2, 0, none⟩ (.bool b)) := by
  have f : Fr [w0.heap.size + 2] w (w.setCell ⟨w0.heap.size + 2, 0, none⟩ (.bool b)) := (Fr.refl _ w).setCell (Or.inl (by simp)) _
  refine ⟨h.b0.kept f (by simp), h.b1.kept f (by simp), ?_, h.sg.kept f (fun g hg e => by rw [List.mem_singleton] at e; subst e; exact h.n2 hg), h.wf, h.on.trans (f.below (by simp) h.on.size)⟩
  have := h.b2.put 0 (.bool b)
  simpa using this
theorem SY.set1 (h : SY w0 nm giver A cap wants e0 e1 w) (b : Bool) : SY w0 nm giver A cap wants e0 b (w.setCell ⟨w0.heap.size + 2, 1, none⟩ (.bool b)) := by
  have f : Fr [w0.heap.size + 2] w (w.setCell ⟨w0.heap.size + 2, 1, none⟩ (.bool b)) := (Fr.refl _ w).setCell (Or.inl (by simp)) _
  refine ⟨h.b0.kept f (by simp), h.b1.kept f (by simp), ?_, h.sg.kept f (fun g hg e => by rw [List.mem_singleton] at e; subst e; exact h.n2 hg), h.wf, h.on.trans (f.below (by simp) h.on.size)⟩
  have := h.b2.put 1 (.bool b)
  simpa using this
theorem SY.setG (h : SY w0 nm giver A cap wants e0 e1 w) (s : ByteArray) : SY w0 nm s A cap wants e0 e1 (w.setCell ⟨w0.heap.size + 1, 1, none⟩ (.string s)) := by
  have f : Fr [w0.heap.size + 1] w (w.setCell ⟨w0.heap.size + 1, 1, none⟩ (.string s)) := (Fr.refl _ w).setCell (Or.inl (by simp)) _
  refine ⟨h.b0.kept f (by simp), ?_, h.b2.kept f (by simp), h.sg.kept f (fun g hg e => by rw [List.mem_singleton] at e; subst e; exact h.n1 hg), h.wf, h.on.trans (f.below (by simp) h.on.size)⟩
  have := h.b1.put 1 (.string s)
  simpa using this
theorem SY.push (h : SY w0 nm giver A cap wants e0 e1 w) {A3 : Option Addr} {cap3 n : Nat} {s : ByteArray} {w3 : World} {ob : Obj} (hn : n = wants.length) (hs3 : Seg w3 9 A3 cap3 (wants.map Value.string ++ [.string s])) (f3 : Fr (blk A) (w.alloc ob) w3) (hf3 : blk A3 = blk A ∨ blk A3 = [(w.alloc ob).heap.size]) :
    (w3.cell? ⟨w0.heap.size + 1, 2, none⟩ = some (.slice A n cap) ∧ w3.frozen? ⟨w0.heap.size + 1, 2, none⟩ = false ∧ w0.heap.size + 1 < w3.heap.size) ∧ SY w0 nm giver A3 cap3 (wants ++ [s]) e0 e1 (w3.setCell ⟨w0.heap.size + 1, 2, none⟩ (.slice A3 (n + 1) cap3)) ∧
    ∀ g, g < w.heap.size → g ∉ blk A → g ≠ w0.heap.size + 1 → (w3.setCell ⟨w0.heap.size + 1, 2, none⟩ (.slice A3 (n + 1) cap3)).heap[g]? = w.heap[g]? := by
  subst hn
  have hF : Fr (blk A) w w3 := ((Fr.refl [] w).alloc ob).trans f3 (by simp) (fun g hg => Or.inl hg)
  have hb1 := h.b1.kept hF h.n1
  have f : Fr [w0.heap.size + 1] w3 (w3.setCell ⟨w0.heap.size + 1, 2, none⟩ (.slice A3 (wants.length + 1) cap3)) := (Fr.refl _ w3).setCell (Or.inl (by simp)) _
  have hA3 : ∀ q ∈ blk A3, q ∈ blk A ∨ w.heap.size ≤ q := fun q hq => by
    rcases hf3 with e | e
    · exact Or.inl (e ▸ hq)
    · rw [e, List.mem_singleton] at hq
      subst hq
      right; simp
  have n3 : w0.heap.size + 1 ∉ blk A3 := hs3.ne_box hb1 (by decide)
  refine ⟨⟨hb1.cell 2, hb1.free 2, hb1.lt⟩, ⟨(h.b0.kept hF h.n0).kept f (by simp), ?_, (h.b2.kept hF h.n2).kept f (by simp), ?_, fun g hg => ?_, ?_⟩, fun g hg hn hne => ?_⟩
  · have := hb1.put 2 (.slice A3 (wants.length + 1) cap3)
    rw [List.length_append, List.length_singleton]
    simpa using this
  · rw [List.map_append]
    exact hs3.kept f (fun g hg e => by rw [List.mem_singleton] at e; subst e; exact n3 hg)
  · rcases hA3 g hg with h1 | h1
    · exact h.wf g h1
    · exact Nat.le_trans h.on.size h1
  · have o1 : Below w0.heap.size w0 w3 := h.on.trans (hF.below h.wf h.on.size)
    exact o1.trans (f.below (by simp) o1.size)
  · exact (f.block g (Nat.lt_of_lt_of_le hg hF.size) (by simpa using hne)).trans (hF.block g hg hn)
end
structure UsL (w : World) (A : Option Addr) (l : List MUs) : Prop where
  t : Tbl w A 9 (l.map MUs.row)
  ok : ∀ x ∈ l, UOk w x
theorem UsL.below {w w' : World} {A : Option Addr} {l : List MUs} (h : UsL w A l) (hb : Below w.heap.size w w') : UsL w' A l := ⟨h.t.below hb, fun x hx => (h.ok x hx).below hb⟩
theorem UsL.at_ {w : World} {A : Option Addr} {l : List MUs} (h : UsL w A l) {k : Nat} (hk : k < l.length) : ∃ g off, A = some ⟨g, off, none⟩ ∧ g < w.heap.size ∧ ∀ i v, l[k].row[i]? = some v → w.cell? ⟨g, off + k * 9 + i, none⟩ = some v := by
  obtain ⟨b, off, e, hl, hc⟩ := h.t (by rw [List.length_map]; omega)
  exact ⟨b, off, e, hl, fun i v hv => hc k (by rw [List.length_map]; exact hk) i v (by rw [List.getElem_map]; exact hv)⟩
def SymQ (w : World) (nm : ByteArray) (p : PS) (e : Ending) (w' : World) : Prop :=
  Below w.heap.size w w' ∧ ((symC p = 0 ∧ ∃ B cap, e = .returned (.tuple #[.agg #[.string nm, .string p.giver, .slice B (rsS (p.wanted.map tx)).length cap], .int .i64 0]) ∧ Rd w' B ((rsS (p.wanted.map tx)).map encStr) ∧ ∀ g ∈ blk B, w.heap.size ≤ g ∧ g < w'.heap.size) ∨
    (symC p ≠ 0 ∧ e = .returned (.tuple #[.agg #[.string ⟨#[]⟩, .string ⟨#[]⟩, .slice none 0 0], .int .i64 (symC p)])))
theorem symQ_bad {w w' : World} {nm : ByteArray} {p : PS} {c : Int} (hb : Below w.heap.size w w') (hc : symC p = c) (h0 : c ≠ 0) : SymQ w nm p (.returned (.tuple #[.agg #[.string ⟨#[]⟩, .string ⟨#[]⟩, .slice none 0 0], .int .i64 c])) w' := by
  subst hc
  exact ⟨hb, Or.inr ⟨h0, rfl⟩⟩
theorem results_cell_tmp {P : Program} {fn : Func} {p q : Tmp} {ty : TypeId} (h : fn.results = #[.cell p ty, .tmp q]) (tmps : Array Value) (w : World) (g : Nat) (t : TypeId) (cs : Array Value) (fr : Nat × Nat) (d : TypeDesc) (v : Value)
    (hp : tmps.getD p undef = .pointer (some ⟨g, 0, none⟩)) (hq : tmps.getD q undef = v) (hg : w.heap[g]? = some (.cells cs t fr))
    (hu : P.underlying ty = some d) (hd : (match d with | .struct _ | .array _ _ => true | _ => false) = true) (hi : (P.info? ty).map (·.size) = some cs.size) :
    (results fn tmps).run P w = .ok (.tuple #[.agg cs, v]) w := by
  subst hq
  have hp' : tmps[p]?.getD undef = .pointer (some ⟨g, 0, none⟩) := by simpa using hp
  simp [results, h, hp', asAddr, run_loadVar_row w g t ty cs fr d hg hu hd hi]
theorem cSy : Tryz.prog.underlying 33 = some (.struct (Tryz.prog.fieldsOf 33)) := by kernel_rfl
theorem three_put {w : World} {b : Nat} {t : TypeId} {z0 z1 z2 : Value} (h : Box w b t #[z0, z1, z2]) (v0 v1 v2 : Value) :
    Box (((w.setCell ⟨b, 0, none⟩ v0).setCell ⟨b, 1, none⟩ v1).setCell ⟨b, 2, none⟩ v2) b t #[v0, v1, v2] ∧ Fr [b] w (((w.setCell ⟨b, 0, none⟩ v0).setCell ⟨b, 1, none⟩ v1).setCell ⟨b, 2, none⟩ v2) := by
  have p : ∀ i : Nat, (⟨b, i, none⟩ : Addr).block ∈ [b] ∨ w.heap.size ≤ (⟨b, i, none⟩ : Addr).block := fun i => Or.inl (by simp)
  refine ⟨?_, (((Fr.refl [b] w).setCell (p 0) v0).setCell (p 1) v1).setCell (p 2) v2⟩
  have := ((h.put 0 v0).put 1 v1).put 2 v2
  simpa using this
theorem sy_new (w : World) (nm : ByteArray) : SY w nm ⟨#[]⟩ none 0 [] false false (((w.alloc (.cells #[.string ⟨#[]⟩, .string ⟨#[]⟩, .slice none 0 0] 33)).alloc (.cells #[.string nm, .string ⟨#[]⟩, .slice none 0 0] 33)).alloc (.cells #[.bool false, .bool false, .bool false] 90)) := by
  refine ⟨?_, ?_, ?_, Seg.nil _ _, fun g hg => (by cases hg), (((Fr.refl [] w).alloc _).alloc _).alloc _ |>.all⟩
  · exact (Box.new w _ _).kept ((((Fr.refl [] _).alloc _)).alloc _) (by simp)
  · have := Box.new (w.alloc (.cells #[.string ⟨#[]⟩, .string ⟨#[]⟩, .slice none 0 0] 33)) 33 #[.string nm, .string ⟨#[]⟩, .slice none 0 0]
    rw [World.size_alloc] at this
    exact this.kept ((Fr.refl [] _).alloc _) (by simp)
  · have := Box.new ((w.alloc (.cells #[.string ⟨#[]⟩, .string ⟨#[]⟩, .slice none 0 0] 33)).alloc (.cells #[.string nm, .string ⟨#[]⟩, .slice none 0 0] 33)) 90 #[.bool false, .bool false, .bool false]
    rwa [World.size_alloc, World.size_alloc] at this
theorem emp_size (s : ByteArray) : (s.toList == []) = decide (s.size = 0) := by
  rw [Bool.eq_iff_iff, beq_iff_eq, decide_eq_true_iff]
  rcases s with ⟨d⟩
  rw [ByteArray.toList_eq]
  show d.toList = [] ↔ d.size = 0
  rw [Array.toList_eq_nil_iff]
  exact Array.size_eq_zero_iff.symm
theorem emp_isE (s : ByteArray) : s.toList.isEmpty = decide (s.size = 0) := by
  rw [← emp_size]
  cases s.toList <;> rfl
end Go.Proofs.YtlkboeajkgbnaaaGreatDoor.ym
namespace Go.Proofs.YtlkboeajkgbnaaaGreatDoor.ym
open Go.RowKit Go.Proofs.YtlkboeajkgbnaaaGreatDoor.mem Go.Proofs.YtlkboeajkgbnaaaGreatDoor.sy Go.Proofs.YtlkboeajkgbnaaaGreatDoor.rng
open Go.Proofs.YtlkboeajkgbnaaaGreatDoor.re (tx SU MU SumM)
open Go.Proofs.YtlkboeajkgbnaaaGreatDoor.sf (map_tx enc_tx SumK putL esC fst0)
open Go.Proofs.YtlkboeajkgbnaaaGreatDoor.inn (rsS)
open Go.Proofs.YtlkboeajkgbnaaaGreatDoor.ins (noOf WF)
structure SyR where
  nm : ByteArray
  giver : ByteArray
  A : Option Addr
  c : Nat
  wanted : List (List UInt8)
def SyR.row (r : SyR) : List Value := [.string r.nm, .string r.giver, .slice r.A r.wanted.length r.c]
def SyR.sym (r : SyR) : Sym := ⟨tx r.nm, r.giver, r.wanted⟩
theorem syrow_one (x : SyR) : ∀ u ∈ x.row, u.oneCell' = true := by
  intro u hu
  unfold SyR.row at hu
  simp only [List.mem_cons, List.not_mem_nil, or_false] at hu
  rcases hu with rfl | rfl | rfl <;> rfl
structure SLv (te : TypeId) (w : World) (rows : List SyR) (A : Option Addr) (cap : Nat) (W : World) : Prop where
  sg : Sg 3 W te A cap rows.length (rows.flatMap SyR.row)
  ge : ∀ q ∈ blk A, w.heap.size ≤ q
  rd : ∀ r ∈ rows, Rd W r.A (r.wanted.map encStr)
  rg : ∀ r ∈ rows, ∀ g ∈ blk r.A, w.heap.size ≤ g ∧ g < W.heap.size ∧ g ∉ blk A
section
variable {te : TypeId} {w W W' : World} {rows : List SyR} {A : Option Addr} {cap : Nat}
theorem SLv.new (te : TypeId) (w W : World) : SLv te w [] none 0 W := ⟨Sg.new 3 _ _, (fun q hq => by cases hq), (fun r hr => by cases hr), (fun r hr => by cases hr)⟩
theorem SLv.kept {F : List Nat} (h : SLv te w rows A cap W) (hf : Fr F W W') (hn : ∀ g ∈ blk A, g ∉ F) (hr : ∀ r ∈ rows, ∀ g ∈ blk r.A, g ∉ F) : SLv te w rows A cap W' :=
  ⟨h.sg.kept hf hn, h.ge, fun r hm => (h.rd r hm).kept hf (hr r hm), fun r hm g hg => ⟨(h.rg r hm g hg).1, Nat.lt_of_lt_of_le (h.rg r hm g hg).2.1 hf.size, (h.rg r hm g hg).2.2⟩⟩
theorem SLv.below (h : SLv te w rows A cap W) (hb : Below W.heap.size W W') : SLv te w rows A cap W' := h.kept (Fr.of_below hb []) (by simp) (by simp)
theorem sgg {sz : Nat} {row : Option Nat} {e : TypeId} {n : Nat} {xs : List Value} (h : Sg sz W e A cap n xs) (hg : W.grownBy W' row) (hr : ∀ r, row = some r → ∃ o : Obj, W.heap[r]? = some o ∧ o.isCells = false) : Sg sz W' e A cap n xs := by
  refine ⟨h.len, h.le, h.max, h.nil, fun a ha => ?_⟩
  obtain ⟨hs, cur, hc, r⟩ := h.ex a ha
  refine ⟨hs, cur, (hg.block _ (Array.getElem?_eq_some_iff.1 hc).1 (fun e => ?_)).trans hc, r⟩
  obtain ⟨o, ho, hn⟩ := hr _ e.symm
  rw [hc] at ho
  cases ho
  cases hn
theorem rdg {row : Option Nat} {xs : List Value} (h : Rd W A xs) (hg : W.grownBy W' row) (hr : ∀ r, row = some r → ∃ o : Obj, W.heap[r]? = some o ∧ o.isCells = false) : Rd W' A xs := fun hz => by
  obtain ⟨g, off, rfl, hl, hc⟩ := h hz
  exact ⟨g, off, rfl, Nat.lt_of_lt_of_le hl hg.size, fun j hj => cell_kept (hc j hj) hg hr⟩
theorem SLv.grown {row : Option Nat} (h : SLv te w rows A cap W) (hg : W.grownBy W' row) (hr : ∀ r, row = some r → ∃ o : Obj, W.heap[r]? = some o ∧ o.isCells = false) : SLv te w rows A cap W' :=
  ⟨sgg h.sg hg hr, h.ge, fun r hm => rdg (h.rd r hm) hg hr, fun r hm g hg2 => ⟨(h.rg r hm g hg2).1, Nat.lt_of_lt_of_le (h.rg r hm g hg2).2.1 hg.size, (h.rg r hm g hg2).2.2⟩⟩
theorem SLv.push (h : SLv te w rows A cap W) (hw : w.heap.size ≤ W.heap.size) {A3 : Option Addr} {cap3 n : Nat} {r : SyR} {w3 : World} {ob : Obj} (hn : n = rows.length) (hs3 : Sg 3 w3 te A3 cap3 (n + 1) (rows.flatMap SyR.row ++ r.row)) (f3 : Fr (blk A) (W.alloc ob) w3) (hf3 : blk A3 = blk A ∨ blk A3 = [(W.alloc ob).heap.size])
    (hrd : Rd W r.A (r.wanted.map encStr)) (hrg : ∀ g ∈ blk r.A, w.heap.size ≤ g ∧ g < W.heap.size ∧ g ∉ blk A) : SLv te w (rows ++ [r]) A3 cap3 w3 ∧ Fr (blk A) W w3 ∧ ∀ g ∈ blk A3, g ∈ blk A ∨ W.heap.size ≤ g := by
  subst hn
  have hF : Fr (blk A) W w3 := ((Fr.refl [] W).alloc ob).trans f3 (by simp) (fun g hg => Or.inl hg)
  have hA3 : ∀ q ∈ blk A3, q ∈ blk A ∨ W.heap.size ≤ q := fun q hq => by
    rcases hf3 with e | e
    · exact Or.inl (e ▸ hq)
    · rw [e, List.mem_singleton] at hq
      subst hq
      right; simp
  have hall : ∀ x ∈ rows ++ [r], Rd W x.A (x.wanted.map encStr) ∧ ∀ g ∈ blk x.A, w.heap.size ≤ g ∧ g < W.heap.size ∧ g ∉ blk A := fun x hx => by
    rcases List.mem_append.1 hx with h1 | h1
    · exact ⟨h.rd x h1, h.rg x h1⟩
    · rw [List.mem_singleton] at h1; subst h1; exact ⟨hrd, hrg⟩
  refine ⟨⟨?_, fun q hq => ?_, fun x hx => (hall x hx).1.kept hF (fun g hg => ((hall x hx).2 g hg).2.2), fun x hx g hg => ⟨((hall x hx).2 g hg).1, Nat.lt_of_lt_of_le ((hall x hx).2 g hg).2.1 hF.size, fun hm => ?_⟩⟩, hF, hA3⟩
  · rw [List.length_append, List.flatMap_append]
    have e : ([r] : List SyR).flatMap SyR.row = r.row := by simp
    rw [e]
    exact hs3
  · rcases hA3 q hq with h1 | h1
    · exact h.ge q h1
    · exact Nat.le_trans hw h1
  · rcases hA3 g hm with h1 | h1
    · exact ((hall x hx).2 g hg).2.2 h1
    · have := ((hall x hx).2 g hg).2.1; omega
end
def ResP (te : TypeId) (w : World) (R : List Sym × List UInt8 × Int) (e : Ending) (w' : World) : Prop :=
  ∃ (A : Option Addr) (cap : Nat) (rows : List SyR), e = .returned (.tuple #[.slice A rows.length cap, encStr R.2.1, .int .i64 R.2.2]) ∧ rows.map SyR.sym = R.1 ∧ Tbl w' A 3 (rows.map SyR.row) ∧ (∀ r ∈ rows, Rd w' r.A (r.wanted.map encStr)) ∧ Below w.heap.size w w'
theorem tbl_sg {sz : Nat} {w : World} {e : TypeId} {A : Option Addr} {cap : Nat} {α : Type} (f : α → List Value) (hf : ∀ x, (f x).length = sz) {xs : List α} (hsz : 0 < sz) (h : Sg sz w e A cap xs.length (xs.flatMap f)) : Tbl w A sz (xs.map f) := fun hz => by
  have hl : 0 < (xs.flatMap f).length := by
    rw [h.len]
    rw [List.length_map] at hz
    exact Nat.mul_pos hz hsz
  obtain ⟨g, off, rfl, hlt, hc⟩ := h.rd hsz hl
  refine ⟨g, off, rfl, hlt, fun j hj i v hv => ?_⟩
  rw [List.length_map] at hj
  rw [List.getElem_map] at hv
  have hi : i < sz := by
    have := (List.getElem?_eq_some_iff.1 hv).1
    rwa [hf] at this
  have key : ∀ (l : List α) (j : Nat) (hj : j < l.length), (l.flatMap f)[j * sz + i]? = (f l[j])[i]? := by
    intro l
    induction l with
    | nil => intro j hj; cases hj
    | cons a t ih =>
      intro j hj
      rw [List.flatMap_cons]
      cases j with
      | zero =>
        rw [Nat.zero_mul, Nat.zero_add, List.getElem?_append_left (by rw [hf]; exact hi)]
        rfl
      | succ j =>
        rw [List.getElem?_append_right (by rw [hf, Nat.succ_mul]; omega), hf]
        have e : (j + 1) * sz + i - sz = j * sz + i := by rw [Nat.succ_mul]; omega
        rw [e]
        have hj2 : j < t.length := by simpa using hj
        rw [ih j hj2]
        rfl
  have e2 := key xs j hj
  rw [hv] at e2
  obtain ⟨h3, h4⟩ := List.getElem?_eq_some_iff.1 e2
  have := hc (j * sz + i) h3
  rw [h4] at this
  rwa [← Nat.add_assoc] at this
theorem resP_of {te : TypeId} {w w' : World} {rows : List SyR} {A : Option Addr} {cap : Nat} {R : List Sym × List UInt8 × Int} (h : SLv te w rows A cap w') (hr : rows.map SyR.sym = R.1) (hb : Below w.heap.size w w') : ResP te w R (.returned (.tuple #[.slice A rows.length cap, encStr R.2.1, .int .i64 R.2.2])) w' :=
  ⟨A, cap, rows, rfl, hr, tbl_sg SyR.row (fun x => rfl) (by decide) h.sg, h.rd, hb⟩
theorem resP_nil {te : TypeId} {w w' : World} {R : List Sym × List UInt8 × Int} (hr : R.1 = []) (hb : Below w.heap.size w w') : ResP te w R (.returned (.tuple #[.slice none 0 0, encStr R.2.1, .int .i64 R.2.2])) w' :=
  ⟨none, 0, [], rfl, by rw [hr]; rfl, (fun h => by simp at h), (fun r hr => by cases hr), hb⟩
theorem fold_flat : ∀ (l : List MU), plainU ((l.flatMap usesM).foldl putM ([], [])) = putAll (usesL (l.map MU.su)) := by
  intro l
  rw [fold_plain]
  unfold putAll usesL
  have e : (l.flatMap usesM).map (fun p => (p.1, p.2.u)) = (l.map MU.su).flatMap usesOf := by
    induction l with
    | nil => rfl
    | cons u t ih => rw [List.flatMap_cons, List.map_append, List.map_cons, List.flatMap_cons, ih, usesM_plain]
  rw [e]
  rfl
theorem putM_ok (P : MUs → Prop) (s : List (List UInt8) × List (List MUs)) (p : List UInt8 × MUs) (hs : ∀ l ∈ s.2, ∀ x ∈ l, P x) (hp : P p.2) : ∀ l ∈ (putM s p).2, ∀ x ∈ l, P x := by
  intro l hl x hx
  unfold putM at hl
  split at hl
  · obtain ⟨i, hi, e⟩ := List.getElem_of_mem hl
    rw [List.getElem_modify] at e
    rw [List.length_modify] at hi
    split at e
    · rw [← e] at hx
      rcases List.mem_append.1 hx with h | h
      · exact hs _ (List.getElem_mem hi) x h
      · rw [List.mem_singleton] at h; subst h; exact hp
    · rw [← e] at hx
      exact hs _ (List.getElem_mem hi) x hx
  · rcases List.mem_append.1 hl with h | h
    · exact hs l h x hx
    · rw [List.mem_singleton] at h; subst h
      rw [List.mem_singleton] at hx; subst hx; exact hp
theorem fold_ok (P : MUs → Prop) : ∀ (L : List (List UInt8 × MUs)) (s : List (List UInt8) × List (List MUs)), (∀ l ∈ s.2, ∀ x ∈ l, P x) → (∀ p ∈ L, P p.2) → ∀ l ∈ (L.foldl putM s).2, ∀ x ∈ l, P x
  | [], s, hs, _ => hs
  | p :: L, s, hs, hp => fold_ok P L (putM s p) (putM_ok P s p hs (hp p List.mem_cons_self)) (fun q hq => hp q (List.mem_cons_of_mem _ hq))
theorem uok_f (w : World) (u : MU) (f : SF) : UOk w (useF u f) := ⟨Nat.zero_le _, Nat.zero_le _, (fun h => by simp [useF, mkUse, oZ] at h), Nat.zero_le _, (fun m hm => by cases hm), (fun m hm => by cases hm), Nat.le_refl _⟩
theorem uses_ok {w : World} {l : List MU} (h : ∀ u ∈ l, SumK w u) : ∀ p ∈ l.flatMap usesM, UOk w p.2 := by
  intro p hp
  obtain ⟨u, hu, hp⟩ := List.mem_flatMap.1 hp
  unfold usesM at hp
  rcases List.mem_append.1 hp with h1 | h1
  · obtain ⟨o, ho, rfl⟩ := List.mem_map.1 h1
    exact (h u hu).m.sr.ok o ho
  · obtain ⟨f, hf, rfl⟩ := List.mem_map.1 h1
    exact uok_f w u f
structure TabD (w : World) (L : List SU) (s : List (List UInt8) × List (List MUs)) : Prop where
  nod : s.1.Nodup
  len : s.2.length = s.1.length
  mem : ∀ n, n ∈ s.1 ↔ n ∈ (usesL L).map (·.1)
  row : ∀ i (h1 : i < s.1.length) (h2 : i < s.2.length), s.2[i].map MUs.u = usesN (usesL L) s.1[i]
  ok : ∀ l ∈ s.2, ∀ x ∈ l, UOk w x
theorem tabD_of {w : World} {l : List MU} (h : ∀ u ∈ l, SumK w u) : TabD w (l.map MU.su) ((l.flatMap usesM).foldl putM ([], [])) := by
  have e := fold_flat l
  obtain ⟨p1, p2, p3⟩ := put_all (usesL (l.map MU.su))
  rw [← e] at p1 p2 p3
  unfold plainU at p1 p2 p3
  dsimp only at p1 p2 p3
  have hl := congrArg List.length p3
  rw [List.length_map, List.length_map] at hl
  refine ⟨p1, hl, p2, fun i h1 h2 => ?_, fold_ok _ _ _ (by simp) (uses_ok h)⟩
  have := congrArg (fun q : List (List Use) => q[i]?) p3
  simp only [List.getElem?_map, List.getElem?_eq_getElem h2, List.getElem?_eq_getElem h1, Option.map_some, Option.some.injEq] at this
  exact this
theorem row_pos {w : World} {L : List SU} {s : List (List UInt8) × List (List MUs)} (h : TabD w L s) {i : Nat} (h1 : i < s.1.length) (h2 : i < s.2.length) : 0 < s.2[i].length := by
  have e := h.row i h1 h2
  have hm := (h.mem s.1[i]).1 (List.getElem_mem h1)
  obtain ⟨p, hp, hpn⟩ := List.mem_map.1 hm
  have : p.2 ∈ usesN (usesL L) s.1[i] := by
    unfold usesN
    exact List.mem_map.2 ⟨p, List.mem_filter.2 ⟨hp, decide_eq_true hpn⟩, rfl⟩
  rw [← e] at this
  have := List.length_pos_of_mem this
  rwa [List.length_map] at this
end Go.Proofs.YtlkboeajkgbnaaaGreatDoor.ym
namespace Go.Proofs.YtlkboeajkgbnaaaGreatDoor.ym
open Go.RowKit Go.Sort Go.Proofs.YtlkboeajkgbnaaaGreatDoor.mem Go.Proofs.YtlkboeajkgbnaaaGreatDoor.sy
open Go.Proofs.YtlkboeajkgbnaaaGreatDoor.re (tx SU MU SumM)
open Go.Proofs.YtlkboeajkgbnaaaGreatDoor.sf (esC fst0)
open Go.Proofs.YtlkboeajkgbnaaaGreatDoor.inn (rsS)
open Go.Proofs.YtlkboeajkgbnaaaGreatDoor.ins (noOf WF)
theorem noOf_at {xs : List (List UInt8)} {x : List UInt8} (h : x ∈ xs) : ∃ hl : noOf xs x < xs.length, xs[noOf xs x] = x := by
  unfold noOf
  rw [if_pos h]
  exact ⟨List.idxOf_lt_length_of_mem h, List.getElem_idxOf _⟩
theorem noOf_lt {xs : List (List UInt8)} (h : 0 < xs.length) (x : List UInt8) : noOf xs x < xs.length := by
  unfold noOf
  split
  · rename_i hm; exact List.idxOf_lt_length_of_mem hm
  · exact h
def rowF (s : List (List UInt8) × List (List MUs)) (x : List UInt8) : List MUs := (s.2[noOf s.1 x]?).getD []
noncomputable def stF (s : List (List UInt8) × List (List MUs)) (x : List UInt8) : PS := psT (rowF s x) (rowF s x).length
noncomputable def codeF (s : List (List UInt8) × List (List MUs)) (x : List UInt8) : Int := symC (stF s x)
noncomputable def symF (s : List (List UInt8) × List (List MUs)) (x : List UInt8) : Sym := ⟨x, (stF s x).giver, rsS ((stF s x).wanted.map tx)⟩
noncomputable def accF (s : List (List UInt8) × List (List MUs)) (pre : List (List UInt8)) : List Sym := (pre.filter (fun x => decide ((stF s x).giver.size ≠ 0))).map (symF s)
theorem accF_snoc (s : List (List UInt8) × List (List MUs)) (pre : List (List UInt8)) (x : List UInt8) : accF s (pre ++ [x]) = accF s pre ++ if (stF s x).giver.size = 0 then [] else [symF s x] := by
  unfold accF
  rw [List.filter_append, List.map_append]
  congr 1
  by_cases h : (stF s x).giver.size = 0
  · rw [if_pos h, List.filter_cons, if_neg (by rw [decide_eq_true_eq]; exact fun k => k h)]; rfl
  · rw [if_neg h, List.filter_cons, if_pos (by rw [decide_eq_true_eq]; exact h)]; rfl
theorem row_eq {w : World} {L : List SU} {s : List (List UInt8) × List (List MUs)} (hT : TabD w L s) {x : List UInt8} (hx : x ∈ s.1) : (rowF s x).map MUs.u = usesN (usesL L) x ∧ 0 < (rowF s x).length := by
  obtain ⟨hl, he⟩ := noOf_at hx
  have h2 : noOf s.1 x < s.2.length := by rw [hT.len]; exact hl
  have e : rowF s x = s.2[noOf s.1 x] := by unfold rowF; rw [List.getElem?_eq_getElem h2]; rfl
  rw [e]
  exact ⟨by rw [hT.row _ hl h2, he], row_pos hT hl h2⟩
theorem st_eq {w : World} {L : List SU} {s : List (List UInt8) × List (List MUs)} (hT : TabD w L s) (hc : chkFrom [] L = none) {x : List UInt8} (hx : x ∈ s.1) :
    codeF s x = symE 12 (usesN (usesL L) x) ∧ (stF s x).giver = giverFrom ⟨#[]⟩ (usesN (usesL L) x) ∧ (stF s x).wanted = wantL (usesN (usesL L) x) ∧ ((stF s x).giver.size = 0 ↔ gCount (usesN (usesL L) x) = 0) := by
  obtain ⟨h1, h2⟩ := row_eq hT hx
  have hm := uses_m L hc x
  rw [← h1] at hm ⊢
  unfold codeF
  have e : stF s x = psAll ((rowF s x).map MUs.u).length (fstU (rowF s x)) ((rowF s x).map MUs.u) := psT_all _
  rw [e]
  rcases hr : rowF s x with _ | ⟨a, t⟩
  · rw [hr] at h2; cases h2
  rw [hr] at hm
  have hs := symE_prog 12 a.u (t.map MUs.u) hm
  have hp := ps_all ((a :: t).map MUs.u).length a.u ((a :: t).map MUs.u) hm
  have hg := giver_empty ((a :: t).map MUs.u) hm
  show symC (psAll ((a :: t).map MUs.u).length a.u ((a :: t).map MUs.u)) = _ ∧ (psAll ((a :: t).map MUs.u).length a.u ((a :: t).map MUs.u)).giver = _ ∧ (psAll ((a :: t).map MUs.u).length a.u ((a :: t).map MUs.u)).wanted = _ ∧ ((psAll ((a :: t).map MUs.u).length a.u ((a :: t).map MUs.u)).giver.size = 0 ↔ _)
  refine ⟨hs, ?_, ?_, ?_⟩
  · rw [hp]
  · rw [hp]
  · rw [hp]; exact hg
theorem res_stop (U : List UInt8 → List Use) : ∀ (p : List (List UInt8)) (acc : List Sym) (x : List UInt8) (t : List (List UInt8)), (∀ n ∈ p, symE 12 (U n) = 0) → symE 12 (U x) ≠ 0 → resFrom U acc (p ++ x :: t) = ([], x, symE 12 (U x)) := by
  intro p
  induction p with
  | nil =>
    intro acc x t _ hx
    show resFrom U acc (x :: t) = _
    unfold resFrom
    rw [if_neg hx]
  | cons a p ih =>
    intro acc x t hp hx
    show resFrom U acc (a :: (p ++ x :: t)) = _
    unfold resFrom
    rw [if_pos (hp a List.mem_cons_self)]
    exact ih _ x t (fun n hn => hp n (List.mem_cons_of_mem _ hn)) hx
theorem names_tab {w : World} {L : List SU} {s : List (List UInt8) × List (List MUs)} (hT : TabD w L s) : rsS s.1 = rsS ((usesL L).map (·.1)) := rsS_ext hT.mem
theorem acc_done {w : World} {L : List SU} {s : List (List UInt8) × List (List MUs)} (hT : TabD w L s) (hc : chkFrom [] L = none) (h8 : L.length ≤ 8) (hz : ∀ y ∈ rsS s.1, codeF s y = 0) : resP L = (accF s (rsS s.1), [], 0) := by
  have hin : ∀ y ∈ rsS s.1, y ∈ s.1 := fun y hy => (rsS_mem _ y).1 hy
  unfold resP
  rw [if_neg (by omega), hc]
  dsimp only
  rw [← names_tab hT, res_list _ _ _ (fun n hn => by rw [← (st_eq hT hc (hin n hn)).1]; exact hz n hn)]
  rw [List.nil_append]
  congr 1
  unfold accF
  have e : (rsS s.1).filter (fun x => decide ((stF s x).giver.size ≠ 0)) = (rsS s.1).filter (fun n => decide (0 < gCount (usesN (usesL L) n))) := by
    apply List.filter_congr
    intro n hn
    rw [decide_eq_decide]
    have := (st_eq hT hc (hin n hn)).2.2.2
    constructor
    · intro h; have : gCount (usesN (usesL L) n) ≠ 0 := fun e => h (this.2 e); omega
    · intro h e; have := this.1 e; omega
  rw [e]
  apply List.map_congr_left
  intro n hn
  have hn2 := hin n (List.mem_filter.1 hn).1
  obtain ⟨_, h2, h3, _⟩ := st_eq hT hc hn2
  unfold symF symOf
  rw [h2, h3]
theorem acc_stop {w : World} {L : List SU} {s : List (List UInt8) × List (List MUs)} (hT : TabD w L s) (hc : chkFrom [] L = none) (h8 : L.length ≤ 8) {p : List (List UInt8)} {x : List UInt8} (hp : p ++ [x] <+: rsS s.1) (hz : ∀ y ∈ p, codeF s y = 0) (hx : codeF s x ≠ 0) : resP L = ([], x, codeF s x) := by
  obtain ⟨t, ht⟩ := hp
  have hin : ∀ y ∈ rsS s.1, y ∈ s.1 := fun y hy => (rsS_mem _ y).1 hy
  have hxm : x ∈ s.1 := hin x (by rw [← ht]; simp)
  have hpm : ∀ y ∈ p, y ∈ s.1 := fun y hy => hin y (by rw [← ht]; simp [hy])
  have ex := (st_eq hT hc hxm).1
  unfold resP
  rw [if_neg (by omega), hc]
  dsimp only
  rw [← names_tab hT, ← ht, List.append_assoc]
  show resFrom _ [] (p ++ x :: t) = _
  rw [res_stop _ p [] x t (fun n hn => by rw [← (st_eq hT hc (hpm n hn)).1]; exact hz n hn) (by rw [← ex]; exact hx), ex]
theorem chk_step (L : List SU) {k : Nat} (hk : k < L.length) (seen : List (List UInt8)) : chkFrom seen (L.drop k) = if fst0 (esC L[k]) = 0 then (if tx L[k].name ∈ seen then some (tx L[k].name, 8) else chkFrom (seen ++ [tx L[k].name]) (L.drop (k + 1))) else some (tx L[k].name, fst0 (esC L[k])) := by
  rw [List.drop_eq_getElem_cons hk]
  rfl
theorem res_chk {L : List SU} {n : List UInt8} {e : Int} (h8 : L.length ≤ 8) (hc : chkFrom [] L = some (n, e)) : resP L = ([], n, e) := by
  unfold resP
  rw [if_neg (by omega), hc]
theorem res_full {L : List SU} (h8 : 8 < L.length) : resP L = ([], [], 4) := by
  unfold resP
  rw [if_pos h8]
theorem um_row {w0 w : World} {b N : Nat} {s : List (List UInt8) × List (List MUs)} {F : List Nat} (h : UM w0 b N s F w) (hz : 0 < s.1.length) (x : List UInt8) : ∃ (gH oH hc : Nat) (rA : Option Addr) (rc : Nat), w.cell? ⟨b, 2, none⟩ = some (.slice (some ⟨gH, oH, none⟩) s.1.length hc) ∧ noOf s.1 x < s.1.length ∧ w.cell? ⟨gH, oH + noOf s.1 x, none⟩ = some (.slice rA (rowF s x).length rc) ∧ Tbl w rA 9 ((rowF s x).map MUs.row) ∧ (rowF s x).length ≤ N ∧ b ∈ F ∧ gH ∈ F ∧ (∀ g ∈ blk rA, g ∈ F) := by
  obtain ⟨f, A, cap, m, H, hc, h, e, rfl⟩ := h
  have hi := noOf_lt hz x
  have er : rowF s x = (f (noOf s.1 x)).us := by
    unfold rowF
    rw [e]
    unfold contU
    rw [List.getElem?_map, List.getElem?_range hi]
    rfl
  obtain ⟨gH, oH, rfl, hlt, hcl⟩ := h.hs.at_ (by rw [hdrs_len]; exact hz)
  have c := hcl (noOf s.1 x) (by rw [hdrs_len]; exact hi)
  rw [hdrs_at _ hi] at c
  rw [er]
  exact ⟨gH, oH, hc, (f (noOf s.1 x)).A, (f (noOf s.1 x)).cap, h.tb.box.cell 2, hi, c, tbl_sg MUs.row (fun x => rfl) (by decide) (h.sg _ hi), h.ln _ hi, mem_footU.2 (Or.inl (by simp [ins.foot])), mem_footU.2 (Or.inr (Or.inl (by simp [blk]))), fun g hg => mem_footU.2 (Or.inr (Or.inr ⟨_, hi, hg⟩))⟩
end Go.Proofs.YtlkboeajkgbnaaaGreatDoor.ym
