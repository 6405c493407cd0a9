/-
  tarjan: the laws of parts, and of what some lead to.
-/
import Derived.Test.YtpdidgacmikllaaTjA8
import Derived.Test.YtpdidgacmikllaaPar
namespace Go.Proofs.Ytpdidgacmikllaa.tj
open Go.RowKit Go.Proofs.Ytpdidgacmikllaa.mem

theorem gr_small {n : Int} {l : List (Int × Int)} (h : grB n l = false) : l.length ≤ 200 ∧ (n ≤ 60 ∨ 20000 < n) := by
  unfold grB at h
  simp only [Bool.or_eq_false_iff, Bool.and_eq_false_iff, decide_eq_false_iff_not] at h
  omega

theorem PaPost.rr {W : World} {g : G} (hg : g.ok) (hn : g.n ≤ 100) {A : Option Addr} {rows : List Row} {c : Nat} (hx : rows.map (·.xs) = g.parts) (hs : Seg W 32 A c (rows.map hdr)) (hr : ∀ r ∈ rows, Rd W r.A (natI r.xs)) : RR W A rows ∧ rows.length ≤ 100 := by
  have hl := congrArg List.length hx
  rw [List.length_map] at hl
  refine ⟨⟨hs.rd, hr, fun r hr2 => ?_⟩, by have := g.parts_len hg; omega⟩
  have : r.xs ∈ g.parts := by rw [← hx]; exact List.mem_map.2 ⟨r, hr2, rfl⟩
  obtain ⟨i, _, e⟩ := ((g.parts_parted hg).all r.xs).1 this
  rw [e]
  unfold G.cls
  have h1 := List.length_filter_le (fun j => g.Q i j) (List.range g.n)
  rw [List.length_range] at h1
  omega

set_option maxRecDepth 100000 in
set_option maxHeartbeats 2000000 in
theorem law_parts (n : Int) (A : Option Addr) (cap : Nat) (l : List (Int × Int)) (w : World) (h : Eds w A l) :
    Calls Try.prog 3 #[.int .i64 n, .slice A l.length cap] w (SaPost true w) := by
  have KG := great_any n A cap l w
  unfold GrPost at KG
  cases hg : grB n l with
  | true =>
    rw [hg] at KG
    have KG := Lib.hid KG
    clear h hg
    go_enter Try.func3, Try.ntmps3
    go_wp2_with fail
    refine KG.out.mono ?_
    rintro e w1 ⟨rfl, rfl⟩
    go_wp2_with fail
    go_ret
    exact ⟨rfl, Below.refl _ _⟩
  | false =>
    rw [hg] at KG
    have KG := Lib.hid KG
    obtain ⟨hl, hn⟩ := gr_small hg
    have KE := Lib.hid (fun w1 (hb : Below w.heap.size w w1) => edges_any A cap l (by omega) w1 (h.on hb))
    have KW := Lib.hid works_any
    rcases hn with hn | hn
    · have KP := Lib.hid (fun w1 B c (he : Eds w1 B l) => parts_any n (by omega) B c l (by omega) w1 he)
      have KQ := Lib.hid (fun w1 (hb : Below w.heap.size w w1) => rparts_any n (by omega) A cap l (by omega) w1 (h.on hb))
      have KR := Lib.hid (fun w1 B c (he : Eds w1 B l) => round_any n (by omega) B c l (by omega) w1 he)
      have KS := Lib.hid (fun w1 (hb : Below w.heap.size w w1) => rround_any n (by omega) A cap l (by omega) w1 (h.on hb))
      have hgn : Hid ((gof n l).n ≤ 100) := Lib.hid (by show n.toNat ≤ 100; omega)
      have hgo := Lib.hid (gof_ok n l)
      clear h hg hl hn
      generalize gof n l = g at *
      generalize l.length = m at *
      go_enter Try.func3, Try.ntmps3
      go_wp2_with fail
      refine KG.out.mono ?_
      rintro e w1 ⟨rfl, rfl⟩
      clear KG
      go_wp2_with fail
      refine (KE.out w (Below.refl _ _)).mono ?_
      rintro e w1 ⟨B1, c1, rfl, he1, _, hb1⟩
      have HE1 := Lib.hid he1
      have HB1 := Lib.hid hb1
      clear he1 hb1
      go_wp2_with fail
      refine (KP.out w1 B1 c1 HE1.out).mono ?_
      rintro e w2 ⟨A2, c2, r2, rfl, x2, s2, t2, b2⟩
      have HR2 := Lib.hid (PaPost.rr hgo.out hgn.out x2 s2 t2)
      have HX2 := Lib.hid x2
      have HB2 := Lib.hid (HB1.out.trans (b2.mono HB1.out.size))
      clear x2 s2 t2 b2
      obtain ⟨n2, hn2⟩ : ∃ n2, Hid (r2.length = n2) := ⟨_, Lib.hid rfl⟩
      rw [hn2.out]
      go_wp2_with fail
      refine (KQ.out w2 HB2.out).mono ?_
      rintro e w3 ⟨A3, c3, r3, rfl, x3, s3, t3, b3⟩
      have HR3 := Lib.hid (PaPost.rr hgo.out hgn.out x3 s3 t3)
      have HX3 := Lib.hid x3
      have HB3 := Lib.hid (HB2.out.trans (b3.mono HB2.out.size))
      have KC := same_any w3 A2 A3 c2 c3 r2 r3 (HR2.out.1.below b3) HR3.out.1 (by have := HR2.out.2; omega) (by have := HR3.out.2; omega)
      rw [decide_eq_true (by rw [x3]; exact HX2.out), hn2.out] at KC
      have KC := Lib.hid KC
      clear x3 s3 t3 b3
      obtain ⟨n3, hn3⟩ : ∃ n3, Hid (r3.length = n3) := ⟨_, Lib.hid rfl⟩
      rw [hn3.out] at KC ⊢
      go_wp2_with fail
      refine KC.out.mono ?_
      rintro e w4 ⟨rfl, b4⟩
      have HB4 := Lib.hid (HB3.out.trans (b4.mono HB3.out.size))
      clear b4 KC HR2 HR3 HX2 HX3 KP KQ hn2 hn3
      go_wp2_with fail
      refine (KE.out w4 HB4.out).mono ?_
      rintro e w5 ⟨B5, c5, rfl, he5, _, hb5⟩
      have HE5 := Lib.hid he5
      have HB5 := Lib.hid (HB4.out.trans (hb5.mono HB4.out.size))
      clear he5 hb5 KE
      go_wp2_with fail
      refine (KR.out w5 B5 c5 HE5.out).mono ?_
      rintro e w6 ⟨rfl, b6⟩
      have HB6 := Lib.hid (HB5.out.trans (b6.mono HB5.out.size))
      clear b6 KR
      go_wp2_with fail
      refine (KS.out w6 HB6.out).mono ?_
      rintro e w7 ⟨rfl, b7⟩
      have HB7 := Lib.hid (HB6.out.trans (b7.mono HB6.out.size))
      clear b7 KS
      generalize g.rnd = r at *
      have d0 : (r == r) = true := by cases r <;> rfl
      go_wp2_with fail
      refine (KW.out w7).mono ?_
      rintro e w8 ⟨rfl, b8⟩
      have HB8 := Lib.hid (HB7.out.trans (b8.mono HB7.out.size))
      clear b8 KW
      go_wp2_with fail
      go_ret
      exact ⟨rfl, HB8.out⟩
    · have KP := Lib.hid (fun w1 v => parts_big n hn v w1)
      have KQ := Lib.hid (fun w1 v => rparts_big n hn v w1)
      have KR := Lib.hid (fun w1 v => round_big n hn v w1)
      have KS := Lib.hid (fun w1 => rround_big n hn A cap l (by omega) w1)
      have KC := Lib.hid (fun w1 => same_nil w1 none none 0 0)
      clear h hg hl hn
      generalize l.length = m at *
      go_enter Try.func3, Try.ntmps3
      go_wp2_with fail
      refine KG.out.mono ?_
      rintro e w1 ⟨rfl, rfl⟩
      clear KG
      go_wp2_with fail
      refine (KE.out w (Below.refl _ _)).mono ?_
      rintro e w1 ⟨B1, c1, rfl, _, _, hb1⟩
      have HB1 := Lib.hid hb1
      clear hb1
      go_wp2_with fail
      refine (KP.out w1 _).mono ?_
      rintro e w2 ⟨rfl, rfl⟩
      go_wp2_with fail
      refine (KQ.out w1 _).mono ?_
      rintro e w2 ⟨rfl, rfl⟩
      go_wp2_with fail
      refine (KC.out w1).mono ?_
      rintro e w4 ⟨rfl, b4⟩
      have HB4 := Lib.hid (HB1.out.trans (b4.mono HB1.out.size))
      clear b4 KC KP KQ
      go_wp2_with fail
      refine (KE.out w4 HB4.out).mono ?_
      rintro e w5 ⟨B5, c5, rfl, _, _, hb5⟩
      have HB5 := Lib.hid (HB4.out.trans (hb5.mono HB4.out.size))
      clear hb5 KE
      go_wp2_with fail
      refine (KR.out w5 _).mono ?_
      rintro e w6 ⟨rfl, b6⟩
      have HB6 := Lib.hid (HB5.out.trans (b6.mono HB5.out.size))
      clear b6 KR
      go_wp2_with fail
      refine (KS.out w6).mono ?_
      rintro e w7 ⟨rfl, b7⟩
      have HB7 := Lib.hid (HB6.out.trans (b7.mono HB6.out.size))
      clear b7 KS
      go_wp2_with fail
      refine (KW.out w7).mono ?_
      rintro e w8 ⟨rfl, b8⟩
      have HB8 := Lib.hid (HB7.out.trans (b8.mono HB7.out.size))
      clear b8 KW
      go_wp2_with fail
      go_ret
      exact ⟨rfl, HB8.out⟩

theorem leads_len (g : G) (n : Int) (fs : List Int) : (g.leads n fs).length ≤ g.n := by
  unfold G.leads
  have h1 := List.length_filter_le (fun j => fs.any fun m => inG n m && g.R m.toNat j) (List.range g.n)
  rwa [List.length_range] at h1

set_option maxRecDepth 100000 in
set_option maxHeartbeats 2000000 in
theorem law_leads (n : Int) (A : Option Addr) (cap : Nat) (l : List (Int × Int)) (F : Option Addr) (fc : Nat) (fs : List Int) (w : World) (h : Eds w A l) (hF : Rd w F (fs.map (Value.int .i64))) :
    Calls Try.prog 4 #[.int .i64 n, .slice A l.length cap, .slice F fs.length fc] w (SaPost true w) := by
  have KG := great_any n A cap l w
  unfold GrPost at KG
  cases hg : grB n l with
  | true =>
    rw [hg] at KG
    have KG := Lib.hid KG
    clear h hg hF
    go_enter Try.func4, Try.ntmps4
    go_wp2_with fail
    refine KG.out.mono ?_
    rintro e w1 ⟨rfl, rfl⟩
    go_wp2_with fail
    go_ret
    exact ⟨rfl, Below.refl _ _⟩
  | false =>
    rw [hg] at KG
    have KG := Lib.hid KG
    by_cases hfs : 60 < fs.length
    · have d1 : decide ((60 : Int) < (fs.length : Int)) = true := decide_eq_true (by omega)
      clear h hg hF
      go_enter Try.func4, Try.ntmps4
      go_wp2_with fail
      refine KG.out.mono ?_
      rintro e w1 ⟨rfl, rfl⟩
      go_wp2_with fail
      go_ret
      exact ⟨rfl, Below.refl _ _⟩
    have d1 : decide ((60 : Int) < (fs.length : Int)) = false := decide_eq_false (by omega)
    obtain ⟨hl, hn⟩ := gr_small hg
    have KE := Lib.hid (fun w1 (hb : Below w.heap.size w w1) => edges_any A cap l (by omega) w1 (h.on hb))
    have KW := Lib.hid works_any
    rcases hn with hn | hn
    · have KP := Lib.hid (fun w1 B c (he : Eds w1 B l) (hb : Below w.heap.size w w1) => leads_any n (by omega) B c l (by omega) F fc fs (by omega) w1 he (Rd.below hF hb))
      have KQ := Lib.hid (fun w1 (hb : Below w.heap.size w w1) => rleads_any n (by omega) A cap l (by omega) F fc fs (by omega) w1 (h.on hb) (Rd.below hF hb))
      have hgl := leads_len (gof n l) n fs
      have hgn : (gof n l).n ≤ 100 := by show n.toNat ≤ 100; omega
      have hgl : Hid (((gof n l).leads n fs).length ≤ 100) := Lib.hid (by omega)
      clear h hg hl hn hF hgn
      generalize (gof n l).leads n fs = L at *
      generalize l.length = m at *
      generalize fs.length = q at *
      go_enter Try.func4, Try.ntmps4
      go_wp2_with fail
      refine KG.out.mono ?_
      rintro e w1 ⟨rfl, rfl⟩
      clear KG
      go_wp2_with fail
      refine (KE.out w (Below.refl _ _)).mono ?_
      rintro e w1 ⟨B1, c1, rfl, he1, _, hb1⟩
      have HE1 := Lib.hid he1
      have HB1 := Lib.hid hb1
      clear he1 hb1 KE
      go_wp2_with fail
      refine (KP.out w1 B1 c1 HE1.out HB1.out).mono ?_
      rintro e w2 ⟨A2, c2, rfl, r2, b2⟩
      have HR2 := Lib.hid r2
      have HB2 := Lib.hid (HB1.out.trans (b2.mono HB1.out.size))
      clear r2 b2 KP
      obtain ⟨nl, hnl⟩ : ∃ nl, Hid (L.length = nl) := ⟨_, Lib.hid rfl⟩
      rw [hnl.out]
      go_wp2_with fail
      refine (KQ.out w2 HB2.out).mono ?_
      rintro e w3 ⟨A3, c3, he3, r3, b3⟩
      rw [hnl.out] at he3
      subst he3
      have HB3 := Lib.hid (HB2.out.trans (b3.mono HB2.out.size))
      have KC := sameI_any w3 A2 A3 c2 c3 L L (HR2.out.below b3) r3 (by have := hgl.out; omega) (by have := hgl.out; omega)
      rw [decide_eq_true rfl, hnl.out] at KC
      have KC := Lib.hid KC
      clear r3 b3 KQ
      go_wp2_with fail
      refine KC.out.mono ?_
      rintro e w4 ⟨rfl, b4⟩
      have HB4 := Lib.hid (HB3.out.trans (b4.mono HB3.out.size))
      clear b4 KC
      go_wp2_with fail
      refine (KW.out w4).mono ?_
      rintro e w8 ⟨rfl, b8⟩
      have HB8 := Lib.hid (HB4.out.trans (b8.mono HB4.out.size))
      clear b8 KW
      go_wp2_with fail
      go_ret
      exact ⟨rfl, HB8.out⟩
    · have KP := Lib.hid (fun w1 v u => leads_big n hn v u w1)
      have KQ := Lib.hid (fun w1 v u => rleads_big n hn v u w1)
      have KC := Lib.hid (fun w1 => sameI_nil w1 none none 0 0)
      clear h hg hl hn hF
      generalize l.length = m at *
      generalize fs.length = q at *
      go_enter Try.func4, Try.ntmps4
      go_wp2_with fail
      refine KG.out.mono ?_
      rintro e w1 ⟨rfl, rfl⟩
      clear KG
      go_wp2_with fail
      refine (KE.out w (Below.refl _ _)).mono ?_
      rintro e w1 ⟨B1, c1, rfl, _, _, hb1⟩
      have HB1 := Lib.hid hb1
      clear hb1
      go_wp2_with fail
      refine (KP.out w1 _ _).mono ?_
      rintro e w2 ⟨rfl, b2⟩
      have HB2 := Lib.hid (HB1.out.trans (b2.mono HB1.out.size))
      clear b2
      go_wp2_with fail
      refine (KQ.out w2 _ _).mono ?_
      rintro e w3 ⟨rfl, rfl⟩
      go_wp2_with fail
      refine (KC.out w2).mono ?_
      rintro e w4 ⟨rfl, b4⟩
      have HB4 := Lib.hid (HB2.out.trans (b4.mono HB2.out.size))
      clear b4 KC KP KQ
      go_wp2_with fail
      refine (KW.out w4).mono ?_
      rintro e w8 ⟨rfl, b8⟩
      have HB8 := Lib.hid (HB4.out.trans (b8.mono HB4.out.size))
      clear b8 KW
      go_wp2_with fail
      go_ret
      exact ⟨rfl, HB8.out⟩
end Go.Proofs.Ytpdidgacmikllaa.tj
