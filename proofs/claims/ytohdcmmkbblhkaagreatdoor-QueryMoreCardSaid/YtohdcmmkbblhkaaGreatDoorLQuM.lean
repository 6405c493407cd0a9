/-
  query: more facts, no less: the law.
-/
import Derived.Test.YtohdcmmkbblhkaaGreatDoorQuK
import Derived.Test.YtohdcmmkbblhkaaGreatDoorLQuA
set_option linter.all false
namespace Go.Proofs.YtohdcmmkbblhkaaGreatDoor.qy
open Go.RowKit Go.ChangeShapes Go.WideShapes Go.Sort Go.Shelf Go.Proofs.YtohdcmmkbblhkaaGreatDoor.mem Go.Proofs.YtohdcmmkbblhkaaGreatDoor.wd
open Go.Proofs.YtohdcmmkbblhkaaGreatDoor.inn (rsS mem_rsS)
open Go.Proofs.YtohdcmmkbblhkaaGreatDoor.ins (WF numV)
open Go.Proofs.YtohdcmmkbblhkaaGreatDoor.nm (Tab tab_below)

/-- what is reached, and two nodes, boxed -/
def boxR (A1 : Option Addr) (n1 c1 : Nat) (A2 : Option Addr) (n2 c2 : Nat) (A3 : Option Addr) (n3 c3 : Nat) (a b : T) : Obj := .cells #[.slice A1 n1 c1, .slice A2 n2 c2, .slice A3 n3 c3, .string ⟨a.toArray⟩, .string ⟨b.toArray⟩] 41
/-- its cells -/
structure BR (W : World) (x : Nat) (A1 : Option Addr) (n1 c1 : Nat) (A2 : Option Addr) (n2 c2 : Nat) (A3 : Option Addr) (n3 c3 : Nat) (a b : T) : Prop where
  k0 : W.cell? ⟨x, 0, none⟩ = some (.slice A1 n1 c1)
  k1 : W.cell? ⟨x, 1, none⟩ = some (.slice A2 n2 c2)
  k2 : W.cell? ⟨x, 2, none⟩ = some (.slice A3 n3 c3)
  k3 : W.cell? ⟨x, 3, none⟩ = some (.string ⟨a.toArray⟩)
  k4 : W.cell? ⟨x, 4, none⟩ = some (.string ⟨b.toArray⟩)
theorem br_new (w W : World) (A1 : Option Addr) (n1 c1 : Nat) (A2 : Option Addr) (n2 c2 : Nat) (A3 : Option Addr) (n3 c3 : Nat) (a b : T) (hb : Below (w.alloc (boxR A1 n1 c1 A2 n2 c2 A3 n3 c3 a b)).heap.size (w.alloc (boxR A1 n1 c1 A2 n2 c2 A3 n3 c3 a b)) W) : BR W w.heap.size A1 n1 c1 A2 n2 c2 A3 n3 c3 a b := by
  have hx : w.heap.size < (w.alloc (boxR A1 n1 c1 A2 n2 c2 A3 n3 c3 a b)).heap.size := by simp
  have B := Box.new w 41 #[.slice A1 n1 c1, .slice A2 n2 c2, .slice A3 n3 c3, .string ⟨a.toArray⟩, .string ⟨b.toArray⟩]
  exact ⟨(hb.cell (p := ⟨w.heap.size, 0, none⟩) hx).trans (B.cell 0), (hb.cell (p := ⟨w.heap.size, 1, none⟩) hx).trans (B.cell 1), (hb.cell (p := ⟨w.heap.size, 2, none⟩) hx).trans (B.cell 2), (hb.cell (p := ⟨w.heap.size, 3, none⟩) hx).trans (B.cell 3), (hb.cell (p := ⟨w.heap.size, 4, none⟩) hx).trans (B.cell 4)⟩

set_option maxHeartbeats 16000000 in
set_option maxRecDepth 100000 in
theorem law_more_of (w : World) (A : Option Addr) (cap : Nat) (l : List MF) (hF : FacM w A l) (hbig : ∀ x ∈ l, FBig x) (hcap : l.length ≤ cap) (A1 : Option Addr) (c1 : Nat) (e1 : List Ed) (A2 : Option Addr) (c2 : Nat) (e2 : List Ed) (A3 : Option Addr) (c3 : Nat) (fr : List T) (a b : T)
    (h1 : EdM w A1 e1) (h2 : EdM w A2 e2) (h3 : Rd w A3 (fr.map encStr)) (m1 : e1.length ≤ maxLen) (m2 : e2.length ≤ maxLen) (m3 : fr.length ≤ maxLen) (htab : Tab w) :
    Calls Tryz.prog 5 #[.slice A l.length cap, .agg #[.slice A1 e1.length c1, .slice A2 e2.length c2, .slice A3 fr.length c3, encStr a, encStr b]] w (BP true w) := by
  obtain ⟨n, hN⟩ : ∃ n, Hid (n = l.length) := ⟨_, Lib.hid rfl⟩
  obtain ⟨n1, hN1⟩ : ∃ n, Hid (n = e1.length) := ⟨_, Lib.hid rfl⟩
  obtain ⟨n2, hN2⟩ : ∃ n, Hid (n = e2.length) := ⟨_, Lib.hid rfl⟩
  obtain ⟨n3, hN3⟩ : ∃ n, Hid (n = fr.length) := ⟨_, Lib.hid rfl⟩
  have HW := Lib.hid (fun W (hb : Below w.heap.size w W) => works_any W (tab_below htab hb))
  have HT := Lib.hid (fun W (hb : Below w.heap.size w W) => tab_below htab hb)
  have HF := Lib.hid (fun W (hb : Below w.heap.size w W) => hF.below hb)
  have H1 := Lib.hid (fun W (hb : Below w.heap.size w W) => h1.below hb)
  have H2 := Lib.hid (fun W (hb : Below w.heap.size w W) => h2.below hb)
  have H3 := Lib.hid (fun W (hb : Below w.heap.size w W) => h3.below hb)
  have KG := Lib.hid (fun W (hb : Below w.heap.size w W) => greatF_any W A cap l (hF.below hb) hbig)
  have KG1 := Lib.hid (fun W (hb : Below w.heap.size w W) => greatE_any W A1 c1 e1 (h1.below hb) m1)
  have KG2 := Lib.hid (fun W (hb : Below w.heap.size w W) => greatE_any W A2 c2 e2 (h2.below hb) m2)
  have KG3 := Lib.hid (fun W (hb : Below w.heap.size w W) => greatT_any W A3 c3 fr (h3.below hb) m3)
  have hC := Lib.hid hcap
  have hbx := Lib.hid (fun W hb => br_new w W A1 n1 c1 A2 n2 c2 A3 n3 c3 a b hb)
  have HB0 : Hid (Below w.heap.size w (w.alloc (boxR A1 n1 c1 A2 n2 c2 A3 n3 c3 a b))) := Lib.hid ((Fr.refl [] w).alloc _).all
  clear hF hbig h1 h2 h3 m1 m2 m3 htab hcap
  unfold BP at HW ⊢
  unfold GFPost at KG
  unfold GEPost at KG1 KG2
  unfold GTPost at KG3
  rw [← hN.out] at KG hC ⊢
  rw [← hN1.out] at KG1 ⊢
  rw [← hN2.out] at KG2 ⊢
  rw [← hN3.out] at KG3 ⊢
  unfold encStr
  go_enter Tryz.func5, Tryz.ntmps5
  unfold boxR at hbx HB0
  go_wp2_with fail
  generalize (w.alloc (.cells #[.slice A1 n1 c1, .slice A2 n2 c2, .slice A3 n3 c3, .string ⟨a.toArray⟩, .string ⟨b.toArray⟩] 41)) = w0 at *
  obtain ⟨bx, hbxe⟩ : ∃ z, Hid (z = w.heap.size) := ⟨_, Lib.hid rfl⟩
  rw [← hbxe.out] at hbx ⊢
  clear hbxe
  refine (HW.out _ HB0.out).mono ?_
  rintro e w1 ⟨rfl, b1⟩
  have T1 := Lib.hid b1
  have B1 := Lib.hid (HB0.out.trans (b1.mono HB0.out.size))
  clear b1 HW
  go_wp2_with fail
  refine (KG.out _ B1.out).mono ?_
  rintro e w2 ⟨r, rfl, b2, hr⟩
  have T2 := Lib.hid (T1.out.trans (b2.mono T1.out.size))
  have B2 := Lib.hid (B1.out.trans (b2.mono B1.out.size))
  clear KG b2 T1 B1
  obtain ⟨k0, k1, k2, k3, k4⟩ := hbx.out w2 T2.out
  rcases r with _ | _
  rotate_left
  · clear hr
    go_wp2_with fail
    go_ret
    exact ⟨rfl, B2.out⟩
  obtain ⟨hl1, hl2⟩ := hr rfl
  clear hr
  go_wp2_with fail
  refine (KG1.out _ B2.out).mono ?_
  rintro e w3 ⟨r, rfl, rfl, hr⟩
  clear KG1
  rcases r with _ | _
  rotate_left
  · clear hr
    go_wp2_with fail
    go_ret
    exact ⟨rfl, B2.out⟩
  obtain ⟨hc1, ht1⟩ := hr rfl
  clear hr
  go_wp2_with fail
  refine (KG2.out _ B2.out).mono ?_
  rintro e w3 ⟨r, rfl, rfl, hr⟩
  clear KG2
  rcases r with _ | _
  rotate_left
  · clear hr
    go_wp2_with fail
    go_ret
    exact ⟨rfl, B2.out⟩
  obtain ⟨hc2, ht2⟩ := hr rfl
  clear hr
  go_wp2_with fail
  refine (KG3.out _ B2.out).mono ?_
  rintro e w3 ⟨r, rfl, rfl, hr⟩
  clear KG3
  rcases r with _ | _
  rotate_left
  · clear hr
    go_wp2_with fail
    go_ret
    exact ⟨rfl, B2.out⟩
  obtain ⟨hc3, ht3⟩ := hr rfl
  clear hr
  by_cases ha : 200 < a.length
  · have da : decide ((200 : Int) < (a.length : Int)) = true := decide_eq_true (by omega)
    clear ht1 ht2 ht3 hl2
    go_wp2_with fail
    go_ret
    exact ⟨rfl, B2.out⟩
  by_cases hb : 200 < b.length
  · have da : decide ((200 : Int) < (a.length : Int)) = false := decide_eq_false (by omega)
    have db : decide ((200 : Int) < (b.length : Int)) = true := decide_eq_true (by omega)
    clear ht1 ht2 ht3 hl2
    go_wp2_with fail
    go_ret
    exact ⟨rfl, B2.out⟩
  have da : decide ((200 : Int) < (a.length : Int)) = false := decide_eq_false (by omega)
  have db : decide ((200 : Int) < (b.length : Int)) = false := decide_eq_false (by omega)
  have hW1 : ∀ e ∈ e1, WF e.1 ∧ WF e.2 := fun e he => by have := ht1 e he; unfold WF maxLen; omega
  have hW2 : ∀ e ∈ e2, WF e.1 ∧ WF e.2 := fun e he => by have := ht2 e he; unfold WF maxLen; omega
  have hW12 : ∀ e ∈ e1 ++ e2, WF e.1 ∧ WF e.2 := fun e he => (List.mem_append.1 he).elim (hW1 e) (hW2 e)
  have hW3 : ∀ x ∈ fr, WF x := fun x hx => by have := ht3 x hx; unfold WF maxLen; omega
  have hl3 : ∀ f ∈ l, f.f.locs.length ≤ 1000000 := fun f hf => Nat.le_trans (hl2 f hf) (by omega)
  have h12 : Hid ((e1 ++ e2).length = n1 + n2) := Lib.hid (by rw [List.length_append, ← hN1.out, ← hN2.out])
  have KE := Lib.hid (fun W (hb : Below w.heap.size w W) => edges_any W A1 c1 e1 (H1.out W hb) (by have := hN1.out; omega))
  have KE2 := Lib.hid (fun W X d (hx : EdM W X (e1 ++ e2)) => edges_any W X d (e1 ++ e2) hx (by have := h12.out; omega))
  have KR := Lib.hid (fun W X d (hb : Below w.heap.size w W) (hx : EdM W X e1) => reach_any W X A3 d c3 e1 fr hx (H3.out W hb) (by have := hN1.out; omega) (by have := hN3.out; omega) hW1 hW3)
  have KR2 := Lib.hid (fun W X d B c R (hx : EdM W X e1) (hR : Rd W B (R.map encStr)) (hRl : R.length ≤ 1000) (hRW : ∀ x ∈ R, WF x) => reach_any W X B d c e1 R hx hR (by have := hN1.out; omega) hRl hW1 hRW)
  have KR3 := Lib.hid (fun W X d (hb : Below w.heap.size w W) (hx : EdM W X (e1 ++ e2)) => reach_any W X A3 d c3 (e1 ++ e2) fr hx (H3.out W hb) (by have := h12.out; omega) (by have := hN3.out; omega) hW12 hW3)
  have hrb := Lib.hid (fun R (hR : RS e1 fr R) => reach_big hR ht3 ht1)
  rw [← hN1.out] at KE KR KR2
  rw [h12.out] at KE2 KR3
  rw [← hN3.out] at KR KR3
  unfold EdPost at KE KE2
  unfold RpPost at KR KR2 KR3
  obtain ⟨kk, hkk⟩ : ∃ z, Hid (z = n / 2) := ⟨_, Lib.hid rfl⟩
  have hq : (n : Int).tdiv 2 = (kk : Int) := by rw [Int.tdiv_eq_ediv_of_nonneg (by omega), hkk.out]; omega
  have hkn : kk ≤ n := by have := hkk.out; omega
  have htl : Hid ((l.take kk).length = kk) := Lib.hid (by rw [List.length_take, ← hN.out]; omega)
  have hsl := fun W => slice_up W A n cap kk (by have := hC.out; omega)
  have hlt : ∀ f ∈ l.take kk, f.f.locs.length ≤ 1000000 := fun f hf => hl3 f (List.mem_of_mem_take hf)
  have KA1 := Lib.hid (fun W (hb : Below w.heap.size w W) => alias_any W A cap (l.take kk) a b ((HF.out W hb).take kk) hlt)
  have KA := Lib.hid (fun W (hb : Below w.heap.size w W) => alias_any W A cap l a b (HF.out W hb) hl3)
  have KAr := Lib.hid (fun W (hb : Below w.heap.size w W) => alias_any W A cap l b a (HF.out W hb) hl3)
  have KC1 := Lib.hid (fun W (hb : Below w.heap.size w W) => callees_any W A cap (l.take kk) a ((HF.out W hb).take kk) hlt (HT.out W hb))
  have KC := Lib.hid (fun W (hb : Below w.heap.size w W) => callees_any W A cap l a (HF.out W hb) hl3 (HT.out W hb))
  have KH1 := Lib.hid (fun W (hb : Below w.heap.size w W) => holders_any W A cap (l.take kk) a ((HF.out W hb).take kk) hlt (by have := htl.out; omega))
  have KH := Lib.hid (fun W (hb : Below w.heap.size w W) => holders_any W A cap l a (HF.out W hb) hl3 (by have := hN.out; omega))
  have hal : aliasB (facs (l.take kk)) a b = true → aliasB (facs l) a b = true := fun h => aliasB_take (facs l) kk a b (by rw [← facs_take]; exact h)
  have hca : (calleesL (facs (l.take kk)) a).length ≤ (calleesL (facs l) a).length := by rw [facs_take]; exact callees_take (facs l) kk a
  have hho : (holdersL (facs (l.take kk)) a).length ≤ (holdersL (facs l) a).length := by rw [facs_take]; exact holders_take (facs l) kk a
  rw [aliasB_comm (facs l) b a] at KAr
  rw [htl.out] at KA1 KC1 KH1
  rw [← hN.out] at KA KAr KC KH
  unfold BP at KA1 KA KAr
  unfold LP at KC1 KC KH1 KH
  generalize aliasB (facs (l.take kk)) a b = ab1 at *
  generalize aliasB (facs l) a b = ab at *
  generalize (calleesL (facs (l.take kk)) a) = lc1 at *
  generalize (calleesL (facs l) a) = lc at *
  generalize (holdersL (facs (l.take kk)) a) = lh1 at *
  generalize (holdersL (facs l) a) = lh at *
  generalize lc1.length = z1 at *
  generalize lc.length = z2 at *
  generalize lh1.length = z3 at *
  generalize lh.length = z4 at *
  have dz1 : decide ((z1 : Int) ≤ (z2 : Int)) = true := decide_eq_true (by omega)
  have dz2 : decide ((z3 : Int) ≤ (z4 : Int)) = true := decide_eq_true (by omega)
  unfold encStr at KA1 KA KAr KC1 KC KH1 KH
  clear hW1 hW2 hW12 hW3 hl2 hl3 hlt ht1 ht2 ht3 HT HF hkk
  go_wp2_with fail
  go_upto_region 5 with fail
  obtain ⟨S, hSd⟩ : ∃ S : World → Prop, Hid (∀ W', S W' ↔ BR W' bx A1 n1 c1 A2 n2 c2 A3 n3 c3 a b) := ⟨_, Lib.hid fun _ => Iff.rfl⟩
  have keepS : Hid (∀ W, Below w0.heap.size w0 W → S W) := Lib.hid (fun W hb => (hSd.out _).2 (hbx.out W hb))
  clear k0 k1 k2 k3 k4
  have T3 := Lib.hid (T2.out.trans ((Fr.refl [] w2).drew.all.mono T2.out.size))
  have B3 := Lib.hid (B2.out.trans ((Fr.refl [] w2).drew.all.mono B2.out.size))
  have hS3 : S w2.drew := keepS.out _ T3.out
  refine rng.wp_normal ?_
  refine wp_region_held_drew (S := S) (by kernel_rfl) hS3 (fun _ => ?_)
  clear T2 B2
  generalize w2.drew = w3 at *
  refine wpAnyH_take (i := 0) (v := (.pointer (some ⟨bx, 0, none⟩))) rfl (by kernel_rfl) (by kernel_rfl) (by kernel_rfl) (fun _ _ _ h => absurd h.1 (by simp)) (Or.inl ⟨by kernel_rfl, ?_⟩) hS3 ?_
  · intro W' hSw
    obtain ⟨k0, k1, k2, k3, k4⟩ := (hSd.out _).1 hSw
    go_simp
  try change wpAnyH _ _ _ _ _ _ _ (Act.put _ (some 40) _) _
  try simp only [Act.put, List.setIfInBounds_toArray, List.set_cons_zero, List.set_cons_succ]
  refine wpAnyH_take (i := 1) (v := (.slice A1 n1 c1)) rfl (by kernel_rfl) (by kernel_rfl) (by kernel_rfl) (fun _ _ _ h => absurd h.1 (by simp)) (Or.inl ⟨by kernel_rfl, ?_⟩) hS3 ?_
  · intro W' hSw
    obtain ⟨k0, k1, k2, k3, k4⟩ := (hSd.out _).1 hSw
    go_simp
  try change wpAnyH _ _ _ _ _ _ _ (Act.put _ (some 41) _) _
  try simp only [Act.put, List.setIfInBounds_toArray, List.set_cons_zero, List.set_cons_succ]
  refine wpAnyH_take (i := 3) (v := (.pointer (some ⟨bx, 2, none⟩))) rfl (by kernel_rfl) (by kernel_rfl) (by kernel_rfl) (fun _ _ _ h => absurd h.1 (by simp)) (Or.inl ⟨by kernel_rfl, ?_⟩) hS3 ?_
  · intro W' hSw
    obtain ⟨k0, k1, k2, k3, k4⟩ := (hSd.out _).1 hSw
    go_simp
  try change wpAnyH _ _ _ _ _ _ _ (Act.put _ (some 43) _) _
  try simp only [Act.put, List.setIfInBounds_toArray, List.set_cons_zero, List.set_cons_succ]
  refine wpAnyH_take (i := 4) (v := (.slice A3 n3 c3)) rfl (by kernel_rfl) (by kernel_rfl) (by kernel_rfl) (fun _ _ _ h => absurd h.1 (by simp)) (Or.inl ⟨by kernel_rfl, ?_⟩) hS3 ?_
  · intro W' hSw
    obtain ⟨k0, k1, k2, k3, k4⟩ := (hSd.out _).1 hSw
    go_simp
  try change wpAnyH _ _ _ _ _ _ _ (Act.put _ (some 44) _) _
  try simp only [Act.put, List.setIfInBounds_toArray, List.set_cons_zero, List.set_cons_succ]
  refine wpAnyH_ready (rs := [2]) (by kernel_rfl) (by simp) ?_
  refine AllReadyH.cons rfl (fun K hK => ?_) AllReadyH.nil
  go_simp
  refine (KE.out _ B3.out).mono ?_
  rintro e w4 ⟨X4, d4, rfl, e4, b4⟩
  have T4 := Lib.hid (T3.out.trans (b4.mono T3.out.size))
  have B4 := Lib.hid (B3.out.trans (b4.mono B3.out.size))
  have E4 := Lib.hid e4
  have hS4 : S w4 := keepS.out _ T4.out
  refine hK.out _ _ hS4 (fun _ => ?_)
  clear hK hS3 T3 B3 b4 e4
  try simp only [Act.put, List.setIfInBounds_toArray, List.set_cons_zero, List.set_cons_succ]
  refine wpAnyH_ready (rs := [5]) (by kernel_rfl) (by simp) ?_
  refine AllReadyH.cons rfl (fun K hK => ?_) AllReadyH.nil
  go_simp
  refine (KR.out _ X4 d4 B4.out E4.out).mono ?_
  rintro e w5 ⟨A5, c5, r5, rfl, q5, b5, p5, s5⟩
  have T5 := Lib.hid (T4.out.trans (b5.mono T4.out.size))
  have B5 := Lib.hid (B4.out.trans (b5.mono B4.out.size))
  have R5 := Lib.hid q5
  have P5 := Lib.hid p5
  have S5 := Lib.hid s5
  have hS5 : S w5 := keepS.out _ T5.out
  refine hK.out _ _ hS5 (fun _ => ?_)
  clear hK hS4 T4 B4 b5 q5 p5 s5 E4
  try simp only [Act.put, List.setIfInBounds_toArray, List.set_cons_zero, List.set_cons_succ]
  obtain ⟨m5, hM5⟩ : ∃ z, Hid (z = r5.length) := ⟨_, Lib.hid rfl⟩
  rw [← hM5.out]
  have hm5 : m5 ≤ 100 := by
    have := reach_len S5.out P5.out
    have h1 := hN1.out
    have h2 := hM5.out
    have h3 := hN3.out
    omega
  refine wpAnyH_take (i := 6) (v := (.slice A5 m5 c5)) rfl (by kernel_rfl) (by kernel_rfl) (by kernel_rfl) (fun _ _ _ h => absurd h.1 (by simp)) (Or.inl ⟨by kernel_rfl, ?_⟩) hS5 ?_
  · intro W' hSw
    obtain ⟨k0, k1, k2, k3, k4⟩ := (hSd.out _).1 hSw
    go_simp
  try change wpAnyH _ _ _ _ _ _ _ (Act.put _ (some 5) _) _
  try simp only [Act.put, List.setIfInBounds_toArray, List.set_cons_zero, List.set_cons_succ]
  refine wpAnyH_done (by kernel_rfl) ?_ _
  refine ⟨rfl, ?_⟩
  have hR5 := Lib.hid (fun W (hb : Below w5.heap.size w5 W) => R5.out.below hb)
  have hRW := Lib.hid (fun x (hx : x ∈ r5) => show WF x from by have := hrb.out r5 S5.out x hx; unfold WF maxLen; omega)
  obtain ⟨k0, k1, k2, k3, k4⟩ := hbx.out w5 T5.out
  clear hS5 R5 KR hrb
  go_wp2_with fail
  refine (KE.out _ B5.out).mono ?_
  rintro e w6 ⟨X6, d6, rfl, e6, b6⟩
  have T6 := Lib.hid (T5.out.trans (b6.mono T5.out.size))
  have B6 := Lib.hid (B5.out.trans (b6.mono B5.out.size))
  have E6 := Lib.hid e6
  have U6 := Lib.hid b6
  clear e6 b6 T5 B5 KE k0 k1 k2 k3 k4
  go_wp2_with fail
  have KR2' := KR2.out w6 X6 d6 A5 c5 r5 E6.out (hR5.out w6 U6.out) (by have := hM5.out; omega) hRW.out
  rw [← hM5.out] at KR2'
  refine KR2'.mono ?_
  rintro e w7 ⟨A7, c7, r7, rfl, q7, b7, p7, s7⟩
  obtain rfl : r7 = r5 := (inn.rises_ext inn.ordS P5.out p7 (S5.out.again s7)).symm
  have T7 := Lib.hid (T6.out.trans (b7.mono T6.out.size))
  have B7 := Lib.hid (B6.out.trans (b7.mono B6.out.size))
  have U7 := Lib.hid (U6.out.trans (b7.mono U6.out.size))
  have R7 := Lib.hid q7
  clear q7 b7 p7 s7 KR2' KR2 T6 B6 U6 E6 hRW
  have KS := inn.same_any w7 A7 A5 c7 c5 r7 R7.out (hR5.out w7 U7.out) (by have := hM5.out; omega)
  rw [← hM5.out] at KS ⊢
  go_wp2_with fail
  refine KS.mono ?_
  rintro e w8 ⟨rfl, b8⟩
  have T8 := Lib.hid (T7.out.trans (b8.mono T7.out.size))
  have B8 := Lib.hid (B7.out.trans (b8.mono B7.out.size))
  have U8 := Lib.hid (U7.out.trans (b8.mono U7.out.size))
  clear b8 KS T7 B7 U7 R7
  go_upto_region 8 with fail
  have T9 := Lib.hid (T8.out.trans ((Fr.refl [] w8).drew.all.mono T8.out.size))
  have B9 := Lib.hid (B8.out.trans ((Fr.refl [] w8).drew.all.mono B8.out.size))
  have U9 := Lib.hid (U8.out.trans ((Fr.refl [] w8).drew.all.mono U8.out.size))
  have hS9 : S w8.drew := keepS.out _ T9.out
  refine rng.wp_normal ?_
  refine wp_region_held_drew (S := S) (by kernel_rfl) hS9 (fun _ => ?_)
  clear T8 B8 U8
  generalize w8.drew = w9 at *
  obtain ⟨i0, hi0, hz0, hz1, hz2⟩ := info_parts info_edge3
  have Hi := Lib.hid hi0
  have Hz0 := Lib.hid hz0
  have Hz1 := Lib.hid hz1
  have Hz2 := Lib.hid hz2
  have HL1 : Hid ((fe e1).length = n1 * 2) := Lib.hid (by rw [fe_len, hN1.out])
  have HL2 : Hid ((fe e2).length = n2 * 2) := Lib.hid (by rw [fe_len, hN2.out])
  have SR1 : Hid (∀ W, Below w.heap.size w W → Src Tryz.prog 2 29 (.slice A1 n1 c1) n1 (fe e1) W) := Lib.hid (fun W hb => by rw [hN1.out]; exact eds_src (H1.out W hb) Tryz.underlying29)
  have SR2 : Hid (∀ W, Below w.heap.size w W → Src Tryz.prog 2 29 (.slice A2 n2 c2) n2 (fe e2) W) := Lib.hid (fun W hb => by rw [hN2.out]; exact eds_src (H2.out W hb) Tryz.underlying29)
  clear hi0 hz0 hz1 hz2
  refine wpAnyH_take (i := 1) (v := (.pointer (some ⟨bx, 0, none⟩))) rfl (by kernel_rfl) (by kernel_rfl) (by kernel_rfl) (fun _ _ _ h => absurd h.1 (by simp)) (Or.inl ⟨by kernel_rfl, ?_⟩) hS9 ?_
  · intro W' hSw
    obtain ⟨k0, k1, k2, k3, k4⟩ := (hSd.out _).1 hSw
    go_simp
  try change wpAnyH _ _ _ _ _ _ _ (Act.put _ (some 55) _) _
  try simp only [Act.put, List.setIfInBounds_toArray, List.set_cons_zero, List.set_cons_succ]
  refine wpAnyH_take (i := 2) (v := (.slice A1 n1 c1)) rfl (by kernel_rfl) (by kernel_rfl) (by kernel_rfl) (fun _ _ _ h => absurd h.1 (by simp)) (Or.inl ⟨by kernel_rfl, ?_⟩) hS9 ?_
  · intro W' hSw
    obtain ⟨k0, k1, k2, k3, k4⟩ := (hSd.out _).1 hSw
    go_simp
  try change wpAnyH _ _ _ _ _ _ _ (Act.put _ (some 56) _) _
  try simp only [Act.put, List.setIfInBounds_toArray, List.set_cons_zero, List.set_cons_succ]
  refine wpAnyH_take (i := 4) (v := (.pointer (some ⟨bx, 1, none⟩))) rfl (by kernel_rfl) (by kernel_rfl) (by kernel_rfl) (fun _ _ _ h => absurd h.1 (by simp)) (Or.inl ⟨by kernel_rfl, ?_⟩) hS9 ?_
  · intro W' hSw
    obtain ⟨k0, k1, k2, k3, k4⟩ := (hSd.out _).1 hSw
    go_simp
  try change wpAnyH _ _ _ _ _ _ _ (Act.put _ (some 58) _) _
  try simp only [Act.put, List.setIfInBounds_toArray, List.set_cons_zero, List.set_cons_succ]
  refine wpAnyH_take (i := 5) (v := (.slice A2 n2 c2)) rfl (by kernel_rfl) (by kernel_rfl) (by kernel_rfl) (fun _ _ _ h => absurd h.1 (by simp)) (Or.inl ⟨by kernel_rfl, ?_⟩) hS9 ?_
  · intro W' hSw
    obtain ⟨k0, k1, k2, k3, k4⟩ := (hSd.out _).1 hSw
    go_simp
  try change wpAnyH _ _ _ _ _ _ _ (Act.put _ (some 59) _) _
  try simp only [Act.put, List.setIfInBounds_toArray, List.set_cons_zero, List.set_cons_succ]
  refine wpAnyH_take (i := 8) (v := (.pointer (some ⟨bx, 2, none⟩))) rfl (by kernel_rfl) (by kernel_rfl) (by kernel_rfl) (fun _ _ _ h => absurd h.1 (by simp)) (Or.inl ⟨by kernel_rfl, ?_⟩) hS9 ?_
  · intro W' hSw
    obtain ⟨k0, k1, k2, k3, k4⟩ := (hSd.out _).1 hSw
    go_simp
  try change wpAnyH _ _ _ _ _ _ _ (Act.put _ (some 62) _) _
  try simp only [Act.put, List.setIfInBounds_toArray, List.set_cons_zero, List.set_cons_succ]
  refine wpAnyH_take (i := 9) (v := (.slice A3 n3 c3)) rfl (by kernel_rfl) (by kernel_rfl) (by kernel_rfl) (fun _ _ _ h => absurd h.1 (by simp)) (Or.inl ⟨by kernel_rfl, ?_⟩) hS9 ?_
  · intro W' hSw
    obtain ⟨k0, k1, k2, k3, k4⟩ := (hSd.out _).1 hSw
    go_simp
  try change wpAnyH _ _ _ _ _ _ _ (Act.put _ (some 63) _) _
  try simp only [Act.put, List.setIfInBounds_toArray, List.set_cons_zero, List.set_cons_succ]
  refine wpAnyH_ready (rs := [0]) (by kernel_rfl) (by simp) ?_
  refine AllReadyH.cons rfl (fun K hK => ?_) AllReadyH.nil
  go_simp
  have f10 := Lib.hid ((Fr.refl [] w9).alloc (.cells #[] 46))
  have hG0 := Lib.hid (sg_empty w9 46)
  have T10 := Lib.hid (T9.out.trans (f10.out.all.mono T9.out.size))
  have B10 := Lib.hid (B9.out.trans (f10.out.all.mono B9.out.size))
  have hS10 := keepS.out _ T10.out
  have hsz10 : Hid ((w9.alloc (.cells #[] 46)).heap.size = w9.heap.size + 1) := Lib.hid (by simp)
  refine hK.out _ _ hS10 (fun _ => ?_)
  clear hK hS9
  generalize w9.alloc (.cells #[] 46) = w10 at *
  try simp only [Act.put, List.setIfInBounds_toArray, List.set_cons_zero, List.set_cons_succ]
  refine wpAnyH_ready (rs := [3]) (by kernel_rfl) (by simp) ?_
  refine AllReadyH.cons rfl (fun K hK => ?_) AllReadyH.nil
  refine step_app2 (yv := .slice A1 n1 c1) (us := fe e1) (by rfl) (.tmp 54) (.tmp 56) _ (by rfl) hG0.out Tryz.underlying29 Hi.out Hz0.out Hz1.out Hz2.out rfl (by rfl) (by rfl) (SR1.out _ B10.out) HL1.out (Nat.zero_add n1) (by omega) (by omega) ?_
  intro g11 o11 c11 w11 hG11 f11 ho11
  have f911 : Fr [] w9 w11 := f10.out.trans f11 (fun g hg => (by cases hg)) (fun g hg => Or.inr (by rw [List.mem_singleton] at hg; omega))
  have g11l : w9.heap.size ≤ g11 := by
    have := hsz10.out
    rcases ho11 with h | h
    · omega
    · omega
  have T11 := Lib.hid (T9.out.trans (f911.all.mono T9.out.size))
  have B11 := Lib.hid (B9.out.trans (f911.all.mono B9.out.size))
  have hS11 := keepS.out _ T11.out
  refine hK.out _ _ hS11 (fun _ => ?_)
  clear hK hS10 T10 B10 hG0
  try simp only [Act.put, List.setIfInBounds_toArray, List.set_cons_zero, List.set_cons_succ]
  refine wpAnyH_ready (rs := [6]) (by kernel_rfl) (by simp) ?_
  refine AllReadyH.cons rfl (fun K hK => ?_) AllReadyH.nil
  refine step_app2 (yv := .slice A2 n2 c2) (us := fe e2) (m := n1 + n2) (by rfl) (.tmp 57) (.tmp 59) _ (by rfl) hG11 Tryz.underlying29 Hi.out Hz0.out Hz1.out Hz2.out rfl (by rfl) (by rfl) (SR2.out _ B11.out) HL2.out rfl (by omega) (by omega) ?_
  intro g12 o12 c12 w12 hG12 f12 ho12
  have f912 : Fr [] w9 w12 := f911.trans f12 (fun g hg => (by cases hg)) (fun g hg => Or.inr (by rw [List.mem_singleton] at hg; omega))
  have T12 := Lib.hid (T9.out.trans (f912.all.mono T9.out.size))
  have B12 := Lib.hid (B9.out.trans (f912.all.mono B9.out.size))
  have U12 := Lib.hid (U9.out.trans (f912.all.mono U9.out.size))
  have E12 : Hid (EdM w12 (some ⟨g12, o12, none⟩) (e1 ++ e2)) := Lib.hid (sg_eds (by rw [fe_app]; simpa using hG12) h12.out.symm)
  have hS12 := keepS.out _ T12.out
  refine hK.out _ _ hS12 (fun _ => ?_)
  clear hK hS11 T11 B11 hG11 hG12 f11 f12 f911 f912 f10 hsz10 ho11 ho12 T9 B9 U9 SR1 SR2 HL1 HL2 Hi Hz0 Hz1 Hz2
  try simp only [Act.put, List.setIfInBounds_toArray, List.set_cons_zero, List.set_cons_succ]
  refine wpAnyH_ready (rs := [7]) (by kernel_rfl) (by simp) ?_
  refine AllReadyH.cons rfl (fun K hK => ?_) AllReadyH.nil
  go_simp
  refine (KE2.out _ (some ⟨g12, o12, none⟩) c12 E12.out).mono ?_
  rintro e w13 ⟨X13, d13, rfl, e13, b13⟩
  have T13 := Lib.hid (T12.out.trans (b13.mono T12.out.size))
  have B13 := Lib.hid (B12.out.trans (b13.mono B12.out.size))
  have E13 := Lib.hid e13
  have U13 := Lib.hid (U12.out.trans (b13.mono U12.out.size))
  have hS13 : S w13 := keepS.out _ T13.out
  refine hK.out _ _ hS13 (fun _ => ?_)
  clear hK hS12 T12 B12 b13 e13 E12 U12
  try simp only [Act.put, List.setIfInBounds_toArray, List.set_cons_zero, List.set_cons_succ]
  refine wpAnyH_ready (rs := [10]) (by kernel_rfl) (by simp) ?_
  refine AllReadyH.cons rfl (fun K hK => ?_) AllReadyH.nil
  go_simp
  refine (KR3.out _ X13 d13 B13.out E13.out).mono ?_
  rintro e w14 ⟨A14, c14, r14, rfl, q14, b14, p14, s14⟩
  have T14 := Lib.hid (T13.out.trans (b14.mono T13.out.size))
  have B14 := Lib.hid (B13.out.trans (b14.mono B13.out.size))
  have R14 := Lib.hid q14
  have hin := Lib.hid (fun x hx => S5.out.more s14 (fun e he => List.mem_append_left _ he) x hx)
  have hl14 := reach_len s14 p14
  have U14 := Lib.hid (U13.out.trans (b14.mono U13.out.size))
  have hS14 : S w14 := keepS.out _ T14.out
  refine hK.out _ _ hS14 (fun _ => ?_)
  clear hK hS13 T13 B13 b14 q14 p14 s14 E13 U13
  try simp only [Act.put, List.setIfInBounds_toArray, List.set_cons_zero, List.set_cons_succ]
  rw [h12.out, ← hN3.out] at hl14
  obtain ⟨m14, hM14⟩ : ∃ z, Hid (z = r14.length) := ⟨_, Lib.hid rfl⟩
  rw [← hM14.out] at hl14 ⊢
  refine wpAnyH_take (i := 11) (v := (.slice A14 m14 c14)) rfl (by kernel_rfl) (by kernel_rfl) (by kernel_rfl) (fun _ _ _ h => absurd h.1 (by simp)) (Or.inl ⟨by kernel_rfl, ?_⟩) hS14 ?_
  · intro W' hSw
    obtain ⟨k0, k1, k2, k3, k4⟩ := (hSd.out _).1 hSw
    go_simp
  try change wpAnyH _ _ _ _ _ _ _ (Act.put _ (some 6) _) _
  try simp only [Act.put, List.setIfInBounds_toArray, List.set_cons_zero, List.set_cons_succ]
  refine wpAnyH_done (by kernel_rfl) ?_ _
  refine ⟨rfl, ?_⟩
  have hY0 := Lib.hid (Below.refl w14.heap.size w14)
  clear hS14 KE2 KR3 H1 H2 H3
  go_wp2_with fail
  go_loopw [7] (fun i wr => ∃ j : Nat, j ≤ m5 ∧ i = .int .i64 j ∧ Hid (Below w14.heap.size w14 wr)) (fun i _ => m5 - (intOf i).toNat)
  case atStart => exact ⟨0, by omega, rfl, hY0⟩
  case round =>
    obtain ⟨j, hj, rfl, hY⟩ := hrel
    clear hY0
    rename World => wy
    by_cases hjn : j < m5
    · have e4 : decide ((j : Int) < (m5 : Int)) = true := decide_eq_true (by omega)
      have hjI : (j : Int) < (m5 : Int) := by omega
      have hjl : j < r7.length := by rw [← hM5.out]; exact hjn
      obtain ⟨g, o, rfl, hg, cx⟩ := rd_at (hR5.out wy (U14.out.trans (hY.out.mono U14.out.size))) hjl
      have KN := Lib.hid (ins.number_any wy A14 c14 r14 r7[j] (R14.out.below hY.out) (by have := hM14.out; omega))
      obtain ⟨z, hz⟩ : ∃ z : Int, Hid (numV r14 r7[j] = z ∧ decide (z < 0) = false) := ⟨_, Lib.hid ⟨rfl, by
        unfold numV
        rw [if_pos (hin.out _ (List.getElem_mem hjl))]
        exact decide_eq_false (by omega)⟩⟩
      have dz := hz.out.2
      rw [hz.out.1, ← hM14.out] at KN
      clear hz
      generalize r7[j] = xj at *
      unfold encStr at cx KN
      go_wp2_with (refine KN.out.mono ?_; rintro e w' ⟨rfl, rfl⟩)
      go_roundw
      case rel => exact ⟨j + 1, by omega, by go_num, hY⟩
      case measure => simp [intOf]; omega
    · obtain rfl : j = m5 := by omega
      have e4 : decide ((j : Int) < (j : Int)) = false := decide_eq_false (by omega)
      have T15 := Lib.hid (T14.out.trans (hY.out.mono T14.out.size))
      have B15 := Lib.hid (B14.out.trans (hY.out.mono B14.out.size))
      clear hY T14 B14 U14 R14 hin hR5 S5 P5 hM5 hM14
      go_upto_region 15 with fail
      have T16 := Lib.hid (T15.out.trans ((Fr.refl [] wy).drew.all.mono T15.out.size))
      have B16 := Lib.hid (B15.out.trans ((Fr.refl [] wy).drew.all.mono B15.out.size))
      have hS16 : S wy.drew := keepS.out _ T16.out
      refine rng.wp_normal ?_
      refine wp_region_held_drew (S := S) (by kernel_rfl) hS16 (fun _ => ?_)
      clear T15 B15
      generalize wy.drew = w16 at *
      rcases ab1 with _ | _
      · refine wpAnyH_take (i := 0) (v := (.slice A n cap)) rfl (by kernel_rfl) (by kernel_rfl) (by kernel_rfl) (fun _ _ _ h => absurd h.1 (by simp)) (Or.inl ⟨by kernel_rfl, ?_⟩) hS16 ?_
        · intro W' hSw
          obtain ⟨k0, k1, k2, k3, k4⟩ := (hSd.out _).1 hSw
          go_simp
        try change wpAnyH _ _ _ _ _ _ _ (Act.put _ (some 81) _) _
        try simp only [Act.put, List.setIfInBounds_toArray, List.set_cons_zero, List.set_cons_succ]
        refine wpAnyH_take (i := 1) (v := (.int .i64 (kk : Nat))) rfl (by kernel_rfl) (by kernel_rfl) (by kernel_rfl) (fun _ _ _ h => absurd h.1 (by simp)) (Or.inl ⟨by kernel_rfl, ?_⟩) hS16 ?_
        · intro W' hSw
          obtain ⟨k0, k1, k2, k3, k4⟩ := (hSd.out _).1 hSw
          go_simp
        try change wpAnyH _ _ _ _ _ _ _ (Act.put _ (some 82) _) _
        try simp only [Act.put, List.setIfInBounds_toArray, List.set_cons_zero, List.set_cons_succ]
        refine wpAnyH_take (i := 2) (v := (.slice A kk cap)) rfl (by kernel_rfl) (by kernel_rfl) (by kernel_rfl) (fun _ _ _ h => absurd h.1 (by simp)) (Or.inl ⟨by kernel_rfl, ?_⟩) hS16 ?_
        · intro W' hSw
          obtain ⟨k0, k1, k2, k3, k4⟩ := (hSd.out _).1 hSw
          go_simp
        try change wpAnyH _ _ _ _ _ _ _ (Act.put _ (some 83) _) _
        try simp only [Act.put, List.setIfInBounds_toArray, List.set_cons_zero, List.set_cons_succ]
        refine wpAnyH_take (i := 3) (v := (.pointer (some ⟨bx, 3, none⟩))) rfl (by kernel_rfl) (by kernel_rfl) (by kernel_rfl) (fun _ _ _ h => absurd h.1 (by simp)) (Or.inl ⟨by kernel_rfl, ?_⟩) hS16 ?_
        · intro W' hSw
          obtain ⟨k0, k1, k2, k3, k4⟩ := (hSd.out _).1 hSw
          go_simp
        try change wpAnyH _ _ _ _ _ _ _ (Act.put _ (some 84) _) _
        try simp only [Act.put, List.setIfInBounds_toArray, List.set_cons_zero, List.set_cons_succ]
        refine wpAnyH_take (i := 4) (v := (.string ⟨a.toArray⟩)) rfl (by kernel_rfl) (by kernel_rfl) (by kernel_rfl) (fun _ _ _ h => absurd h.1 (by simp)) (Or.inl ⟨by kernel_rfl, ?_⟩) hS16 ?_
        · intro W' hSw
          obtain ⟨k0, k1, k2, k3, k4⟩ := (hSd.out _).1 hSw
          go_simp
        try change wpAnyH _ _ _ _ _ _ _ (Act.put _ (some 85) _) _
        try simp only [Act.put, List.setIfInBounds_toArray, List.set_cons_zero, List.set_cons_succ]
        refine wpAnyH_take (i := 5) (v := (.pointer (some ⟨bx, 4, none⟩))) rfl (by kernel_rfl) (by kernel_rfl) (by kernel_rfl) (fun _ _ _ h => absurd h.1 (by simp)) (Or.inl ⟨by kernel_rfl, ?_⟩) hS16 ?_
        · intro W' hSw
          obtain ⟨k0, k1, k2, k3, k4⟩ := (hSd.out _).1 hSw
          go_simp
        try change wpAnyH _ _ _ _ _ _ _ (Act.put _ (some 86) _) _
        try simp only [Act.put, List.setIfInBounds_toArray, List.set_cons_zero, List.set_cons_succ]
        refine wpAnyH_take (i := 6) (v := (.string ⟨b.toArray⟩)) rfl (by kernel_rfl) (by kernel_rfl) (by kernel_rfl) (fun _ _ _ h => absurd h.1 (by simp)) (Or.inl ⟨by kernel_rfl, ?_⟩) hS16 ?_
        · intro W' hSw
          obtain ⟨k0, k1, k2, k3, k4⟩ := (hSd.out _).1 hSw
          go_simp
        try change wpAnyH _ _ _ _ _ _ _ (Act.put _ (some 87) _) _
        try simp only [Act.put, List.setIfInBounds_toArray, List.set_cons_zero, List.set_cons_succ]
        refine wpAnyH_ready (rs := [7]) (by kernel_rfl) (by simp) ?_
        refine AllReadyH.cons rfl (fun K hK => ?_) AllReadyH.nil
        go_simp
        refine (KA1.out _ B16.out).mono ?_
        rintro e w17 ⟨rfl, b17⟩
        have T17 := Lib.hid (T16.out.trans (b17.mono T16.out.size))
        have B17 := Lib.hid (B16.out.trans (b17.mono B16.out.size))
        have hS17 : S w17 := keepS.out _ T17.out
        refine hK.out _ _ hS17 (fun _ => ?_)
        clear hK hS16 T16 B16 b17 KA1
        try simp only [Act.put, List.setIfInBounds_toArray, List.set_cons_zero, List.set_cons_succ]
        refine wpAnyH_take (i := 8) (v := (.bool true)) rfl (by kernel_rfl) (by kernel_rfl) (by kernel_rfl) (fun _ _ _ h => absurd h.1 (by simp)) (Or.inl ⟨by kernel_rfl, ?_⟩) hS17 ?_
        · intro W' hSw
          obtain ⟨k0, k1, k2, k3, k4⟩ := (hSd.out _).1 hSw
          go_simp
        try change wpAnyH _ _ _ _ _ _ _ (Act.put _ (some 89) _) _
        try simp only [Act.put, List.setIfInBounds_toArray, List.set_cons_zero, List.set_cons_succ]
        refine wpAnyH_take (i := 9) (v := (.bool true)) rfl (by kernel_rfl) (by kernel_rfl) (by kernel_rfl) (fun _ _ _ h => absurd h.1 (by simp)) (Or.inl ⟨by kernel_rfl, ?_⟩) hS17 ?_
        · intro W' hSw
          obtain ⟨k0, k1, k2, k3, k4⟩ := (hSd.out _).1 hSw
          go_simp
        try change wpAnyH _ _ _ _ _ _ _ (Act.put _ (some 90) _) _
        try simp only [Act.put, List.setIfInBounds_toArray, List.set_cons_zero, List.set_cons_succ]
        refine wpAnyH_take (i := 10) (v := undef) rfl (by kernel_rfl) (by kernel_rfl) (by kernel_rfl) (fun _ _ _ h => absurd h.1 (by simp)) (Or.inr ⟨by kernel_rfl, rfl⟩) hS17 ?_
        try change wpAnyH _ _ _ _ _ _ _ (Act.put _ (some 91) _) _
        try simp only [Act.put, List.setIfInBounds_toArray, List.set_cons_zero, List.set_cons_succ]
        refine wpAnyH_take (i := 11) (v := undef) rfl (by kernel_rfl) (by kernel_rfl) (by kernel_rfl) (fun _ _ _ h => absurd h.1 (by simp)) (Or.inr ⟨by kernel_rfl, rfl⟩) hS17 ?_
        try change wpAnyH _ _ _ _ _ _ _ (Act.put _ (some 92) _) _
        try simp only [Act.put, List.setIfInBounds_toArray, List.set_cons_zero, List.set_cons_succ]
        refine wpAnyH_take (i := 12) (v := undef) rfl (by kernel_rfl) (by kernel_rfl) (by kernel_rfl) (fun _ _ _ h => absurd h.1 (by simp)) (Or.inr ⟨by kernel_rfl, rfl⟩) hS17 ?_
        try change wpAnyH _ _ _ _ _ _ _ (Act.put _ (some 93) _) _
        try simp only [Act.put, List.setIfInBounds_toArray, List.set_cons_zero, List.set_cons_succ]
        refine wpAnyH_take (i := 13) (v := undef) rfl (by kernel_rfl) (by kernel_rfl) (by kernel_rfl) (fun _ _ _ h => absurd h.1 (by simp)) (Or.inr ⟨by kernel_rfl, rfl⟩) hS17 ?_
        try change wpAnyH _ _ _ _ _ _ _ (Act.put _ (some 94) _) _
        try simp only [Act.put, List.setIfInBounds_toArray, List.set_cons_zero, List.set_cons_succ]
        refine wpAnyH_take (i := 14) (v := undef) rfl (by kernel_rfl) (by kernel_rfl) (by kernel_rfl) (fun _ _ _ h => absurd h.1 (by simp)) (Or.inr ⟨by kernel_rfl, rfl⟩) hS17 ?_
        try change wpAnyH _ _ _ _ _ _ _ (Act.put _ (some 95) _) _
        try simp only [Act.put, List.setIfInBounds_toArray, List.set_cons_zero, List.set_cons_succ]
        refine wpAnyH_take (i := 15) (v := undef) rfl (by kernel_rfl) (by kernel_rfl) (by kernel_rfl) (fun _ _ _ h => absurd h.1 (by simp)) (Or.inr ⟨by kernel_rfl, rfl⟩) hS17 ?_
        try change wpAnyH _ _ _ _ _ _ _ (Act.put _ (some 96) _) _
        try simp only [Act.put, List.setIfInBounds_toArray, List.set_cons_zero, List.set_cons_succ]
        refine wpAnyH_take (i := 16) (v := (.bool true)) rfl (by kernel_rfl) (by kernel_rfl) (by kernel_rfl) (fun _ _ _ h => absurd h.1 (by simp)) (Or.inl ⟨by kernel_rfl, ?_⟩) hS17 ?_
        · intro W' hSw
          obtain ⟨k0, k1, k2, k3, k4⟩ := (hSd.out _).1 hSw
          go_simp
        try change wpAnyH _ _ _ _ _ _ _ (Act.put _ (some 97) _) _
        try simp only [Act.put, List.setIfInBounds_toArray, List.set_cons_zero, List.set_cons_succ]
        refine wpAnyH_take (i := 17) (v := (.bool true)) rfl (by kernel_rfl) (by kernel_rfl) (by kernel_rfl) (fun _ _ _ h => absurd h.1 (by simp)) (Or.inl ⟨by kernel_rfl, ?_⟩) hS17 ?_
        · intro W' hSw
          obtain ⟨k0, k1, k2, k3, k4⟩ := (hSd.out _).1 hSw
          go_simp
        try change wpAnyH _ _ _ _ _ _ _ (Act.put _ (some 98) _) _
        try simp only [Act.put, List.setIfInBounds_toArray, List.set_cons_zero, List.set_cons_succ]
        refine wpAnyH_take (i := 18) (v := (.slice A n cap)) rfl (by kernel_rfl) (by kernel_rfl) (by kernel_rfl) (fun _ _ _ h => absurd h.1 (by simp)) (Or.inl ⟨by kernel_rfl, ?_⟩) hS17 ?_
        · intro W' hSw
          obtain ⟨k0, k1, k2, k3, k4⟩ := (hSd.out _).1 hSw
          go_simp
        try change wpAnyH _ _ _ _ _ _ _ (Act.put _ (some 99) _) _
        try simp only [Act.put, List.setIfInBounds_toArray, List.set_cons_zero, List.set_cons_succ]
        refine wpAnyH_take (i := 19) (v := (.int .i64 (kk : Nat))) rfl (by kernel_rfl) (by kernel_rfl) (by kernel_rfl) (fun _ _ _ h => absurd h.1 (by simp)) (Or.inl ⟨by kernel_rfl, ?_⟩) hS17 ?_
        · intro W' hSw
          obtain ⟨k0, k1, k2, k3, k4⟩ := (hSd.out _).1 hSw
          go_simp
        try change wpAnyH _ _ _ _ _ _ _ (Act.put _ (some 100) _) _
        try simp only [Act.put, List.setIfInBounds_toArray, List.set_cons_zero, List.set_cons_succ]
        refine wpAnyH_take (i := 20) (v := (.slice A kk cap)) rfl (by kernel_rfl) (by kernel_rfl) (by kernel_rfl) (fun _ _ _ h => absurd h.1 (by simp)) (Or.inl ⟨by kernel_rfl, ?_⟩) hS17 ?_
        · intro W' hSw
          obtain ⟨k0, k1, k2, k3, k4⟩ := (hSd.out _).1 hSw
          go_simp
        try change wpAnyH _ _ _ _ _ _ _ (Act.put _ (some 101) _) _
        try simp only [Act.put, List.setIfInBounds_toArray, List.set_cons_zero, List.set_cons_succ]
        refine wpAnyH_take (i := 21) (v := (.pointer (some ⟨bx, 3, none⟩))) rfl (by kernel_rfl) (by kernel_rfl) (by kernel_rfl) (fun _ _ _ h => absurd h.1 (by simp)) (Or.inl ⟨by kernel_rfl, ?_⟩) hS17 ?_
        · intro W' hSw
          obtain ⟨k0, k1, k2, k3, k4⟩ := (hSd.out _).1 hSw
          go_simp
        try change wpAnyH _ _ _ _ _ _ _ (Act.put _ (some 102) _) _
        try simp only [Act.put, List.setIfInBounds_toArray, List.set_cons_zero, List.set_cons_succ]
        refine wpAnyH_take (i := 22) (v := (.string ⟨a.toArray⟩)) rfl (by kernel_rfl) (by kernel_rfl) (by kernel_rfl) (fun _ _ _ h => absurd h.1 (by simp)) (Or.inl ⟨by kernel_rfl, ?_⟩) hS17 ?_
        · intro W' hSw
          obtain ⟨k0, k1, k2, k3, k4⟩ := (hSd.out _).1 hSw
          go_simp
        try change wpAnyH _ _ _ _ _ _ _ (Act.put _ (some 103) _) _
        try simp only [Act.put, List.setIfInBounds_toArray, List.set_cons_zero, List.set_cons_succ]
        refine wpAnyH_take (i := 25) (v := (.slice A n cap)) rfl (by kernel_rfl) (by kernel_rfl) (by kernel_rfl) (fun _ _ _ h => absurd h.1 (by simp)) (Or.inl ⟨by kernel_rfl, ?_⟩) hS17 ?_
        · intro W' hSw
          obtain ⟨k0, k1, k2, k3, k4⟩ := (hSd.out _).1 hSw
          go_simp
        try change wpAnyH _ _ _ _ _ _ _ (Act.put _ (some 106) _) _
        try simp only [Act.put, List.setIfInBounds_toArray, List.set_cons_zero, List.set_cons_succ]
        refine wpAnyH_take (i := 26) (v := (.pointer (some ⟨bx, 3, none⟩))) rfl (by kernel_rfl) (by kernel_rfl) (by kernel_rfl) (fun _ _ _ h => absurd h.1 (by simp)) (Or.inl ⟨by kernel_rfl, ?_⟩) hS17 ?_
        · intro W' hSw
          obtain ⟨k0, k1, k2, k3, k4⟩ := (hSd.out _).1 hSw
          go_simp
        try change wpAnyH _ _ _ _ _ _ _ (Act.put _ (some 107) _) _
        try simp only [Act.put, List.setIfInBounds_toArray, List.set_cons_zero, List.set_cons_succ]
        refine wpAnyH_take (i := 27) (v := (.string ⟨a.toArray⟩)) rfl (by kernel_rfl) (by kernel_rfl) (by kernel_rfl) (fun _ _ _ h => absurd h.1 (by simp)) (Or.inl ⟨by kernel_rfl, ?_⟩) hS17 ?_
        · intro W' hSw
          obtain ⟨k0, k1, k2, k3, k4⟩ := (hSd.out _).1 hSw
          go_simp
        try change wpAnyH _ _ _ _ _ _ _ (Act.put _ (some 108) _) _
        try simp only [Act.put, List.setIfInBounds_toArray, List.set_cons_zero, List.set_cons_succ]
        refine wpAnyH_ready (rs := [23]) (by kernel_rfl) (by simp) ?_
        refine AllReadyH.cons rfl (fun K hK => ?_) AllReadyH.nil
        go_simp
        refine (KC1.out _ B17.out).mono ?_
        rintro e w18 ⟨A18, cc18, rfl, _, b18⟩
        have T18 := Lib.hid (T17.out.trans (b18.mono T17.out.size))
        have B18 := Lib.hid (B17.out.trans (b18.mono B17.out.size))
        have hS18 : S w18 := keepS.out _ T18.out
        refine hK.out _ _ hS18 (fun _ => ?_)
        clear hK hS17 T17 B17 b18 KC1
        try simp only [Act.put, List.setIfInBounds_toArray, List.set_cons_zero, List.set_cons_succ]
        refine wpAnyH_take (i := 24) (v := (.int .i64 (z1 : Nat))) rfl (by kernel_rfl) (by kernel_rfl) (by kernel_rfl) (fun _ _ _ h => absurd h.1 (by simp)) (Or.inl ⟨by kernel_rfl, ?_⟩) hS18 ?_
        · intro W' hSw
          obtain ⟨k0, k1, k2, k3, k4⟩ := (hSd.out _).1 hSw
          go_simp
        try change wpAnyH _ _ _ _ _ _ _ (Act.put _ (some 105) _) _
        try simp only [Act.put, List.setIfInBounds_toArray, List.set_cons_zero, List.set_cons_succ]
        refine wpAnyH_ready (rs := [28]) (by kernel_rfl) (by simp) ?_
        refine AllReadyH.cons rfl (fun K hK => ?_) AllReadyH.nil
        go_simp
        refine (KC.out _ B18.out).mono ?_
        rintro e w19 ⟨A19, cc19, rfl, _, b19⟩
        have T19 := Lib.hid (T18.out.trans (b19.mono T18.out.size))
        have B19 := Lib.hid (B18.out.trans (b19.mono B18.out.size))
        have hS19 : S w19 := keepS.out _ T19.out
        refine hK.out _ _ hS19 (fun _ => ?_)
        clear hK hS18 T18 B18 b19 KC
        try simp only [Act.put, List.setIfInBounds_toArray, List.set_cons_zero, List.set_cons_succ]
        refine wpAnyH_take (i := 29) (v := (.int .i64 (z2 : Nat))) rfl (by kernel_rfl) (by kernel_rfl) (by kernel_rfl) (fun _ _ _ h => absurd h.1 (by simp)) (Or.inl ⟨by kernel_rfl, ?_⟩) hS19 ?_
        · intro W' hSw
          obtain ⟨k0, k1, k2, k3, k4⟩ := (hSd.out _).1 hSw
          go_simp
        try change wpAnyH _ _ _ _ _ _ _ (Act.put _ (some 110) _) _
        try simp only [Act.put, List.setIfInBounds_toArray, List.set_cons_zero, List.set_cons_succ]
        refine wpAnyH_take (i := 30) (v := (.bool true)) rfl (by kernel_rfl) (by kernel_rfl) (by kernel_rfl) (fun _ _ _ h => absurd h.1 (by simp)) (Or.inl ⟨by kernel_rfl, ?_⟩) hS19 ?_
        · intro W' hSw
          obtain ⟨k0, k1, k2, k3, k4⟩ := (hSd.out _).1 hSw
          go_simp
        try change wpAnyH _ _ _ _ _ _ _ (Act.put _ (some 111) _) _
        try simp only [Act.put, List.setIfInBounds_toArray, List.set_cons_zero, List.set_cons_succ]
        refine wpAnyH_take (i := 31) (v := (.bool true)) rfl (by kernel_rfl) (by kernel_rfl) (by kernel_rfl) (fun _ _ _ h => absurd h.1 (by simp)) (Or.inl ⟨by kernel_rfl, ?_⟩) hS19 ?_
        · intro W' hSw
          obtain ⟨k0, k1, k2, k3, k4⟩ := (hSd.out _).1 hSw
          go_simp
        try change wpAnyH _ _ _ _ _ _ _ (Act.put _ (some 112) _) _
        try simp only [Act.put, List.setIfInBounds_toArray, List.set_cons_zero, List.set_cons_succ]
        refine wpAnyH_take (i := 32) (v := (.bool true)) rfl (by kernel_rfl) (by kernel_rfl) (by kernel_rfl) (fun _ _ _ h => absurd h.1 (by simp)) (Or.inl ⟨by kernel_rfl, ?_⟩) hS19 ?_
        · intro W' hSw
          obtain ⟨k0, k1, k2, k3, k4⟩ := (hSd.out _).1 hSw
          go_simp
        try change wpAnyH _ _ _ _ _ _ _ (Act.put _ (some 113) _) _
        try simp only [Act.put, List.setIfInBounds_toArray, List.set_cons_zero, List.set_cons_succ]
        refine wpAnyH_take (i := 33) (v := (.slice A n cap)) rfl (by kernel_rfl) (by kernel_rfl) (by kernel_rfl) (fun _ _ _ h => absurd h.1 (by simp)) (Or.inl ⟨by kernel_rfl, ?_⟩) hS19 ?_
        · intro W' hSw
          obtain ⟨k0, k1, k2, k3, k4⟩ := (hSd.out _).1 hSw
          go_simp
        try change wpAnyH _ _ _ _ _ _ _ (Act.put _ (some 114) _) _
        try simp only [Act.put, List.setIfInBounds_toArray, List.set_cons_zero, List.set_cons_succ]
        refine wpAnyH_take (i := 34) (v := (.int .i64 (kk : Nat))) rfl (by kernel_rfl) (by kernel_rfl) (by kernel_rfl) (fun _ _ _ h => absurd h.1 (by simp)) (Or.inl ⟨by kernel_rfl, ?_⟩) hS19 ?_
        · intro W' hSw
          obtain ⟨k0, k1, k2, k3, k4⟩ := (hSd.out _).1 hSw
          go_simp
        try change wpAnyH _ _ _ _ _ _ _ (Act.put _ (some 115) _) _
        try simp only [Act.put, List.setIfInBounds_toArray, List.set_cons_zero, List.set_cons_succ]
        refine wpAnyH_take (i := 35) (v := (.slice A kk cap)) rfl (by kernel_rfl) (by kernel_rfl) (by kernel_rfl) (fun _ _ _ h => absurd h.1 (by simp)) (Or.inl ⟨by kernel_rfl, ?_⟩) hS19 ?_
        · intro W' hSw
          obtain ⟨k0, k1, k2, k3, k4⟩ := (hSd.out _).1 hSw
          go_simp
        try change wpAnyH _ _ _ _ _ _ _ (Act.put _ (some 116) _) _
        try simp only [Act.put, List.setIfInBounds_toArray, List.set_cons_zero, List.set_cons_succ]
        refine wpAnyH_take (i := 36) (v := (.pointer (some ⟨bx, 3, none⟩))) rfl (by kernel_rfl) (by kernel_rfl) (by kernel_rfl) (fun _ _ _ h => absurd h.1 (by simp)) (Or.inl ⟨by kernel_rfl, ?_⟩) hS19 ?_
        · intro W' hSw
          obtain ⟨k0, k1, k2, k3, k4⟩ := (hSd.out _).1 hSw
          go_simp
        try change wpAnyH _ _ _ _ _ _ _ (Act.put _ (some 117) _) _
        try simp only [Act.put, List.setIfInBounds_toArray, List.set_cons_zero, List.set_cons_succ]
        refine wpAnyH_take (i := 37) (v := (.string ⟨a.toArray⟩)) rfl (by kernel_rfl) (by kernel_rfl) (by kernel_rfl) (fun _ _ _ h => absurd h.1 (by simp)) (Or.inl ⟨by kernel_rfl, ?_⟩) hS19 ?_
        · intro W' hSw
          obtain ⟨k0, k1, k2, k3, k4⟩ := (hSd.out _).1 hSw
          go_simp
        try change wpAnyH _ _ _ _ _ _ _ (Act.put _ (some 118) _) _
        try simp only [Act.put, List.setIfInBounds_toArray, List.set_cons_zero, List.set_cons_succ]
        refine wpAnyH_take (i := 40) (v := (.slice A n cap)) rfl (by kernel_rfl) (by kernel_rfl) (by kernel_rfl) (fun _ _ _ h => absurd h.1 (by simp)) (Or.inl ⟨by kernel_rfl, ?_⟩) hS19 ?_
        · intro W' hSw
          obtain ⟨k0, k1, k2, k3, k4⟩ := (hSd.out _).1 hSw
          go_simp
        try change wpAnyH _ _ _ _ _ _ _ (Act.put _ (some 121) _) _
        try simp only [Act.put, List.setIfInBounds_toArray, List.set_cons_zero, List.set_cons_succ]
        refine wpAnyH_take (i := 41) (v := (.pointer (some ⟨bx, 3, none⟩))) rfl (by kernel_rfl) (by kernel_rfl) (by kernel_rfl) (fun _ _ _ h => absurd h.1 (by simp)) (Or.inl ⟨by kernel_rfl, ?_⟩) hS19 ?_
        · intro W' hSw
          obtain ⟨k0, k1, k2, k3, k4⟩ := (hSd.out _).1 hSw
          go_simp
        try change wpAnyH _ _ _ _ _ _ _ (Act.put _ (some 122) _) _
        try simp only [Act.put, List.setIfInBounds_toArray, List.set_cons_zero, List.set_cons_succ]
        refine wpAnyH_take (i := 42) (v := (.string ⟨a.toArray⟩)) rfl (by kernel_rfl) (by kernel_rfl) (by kernel_rfl) (fun _ _ _ h => absurd h.1 (by simp)) (Or.inl ⟨by kernel_rfl, ?_⟩) hS19 ?_
        · intro W' hSw
          obtain ⟨k0, k1, k2, k3, k4⟩ := (hSd.out _).1 hSw
          go_simp
        try change wpAnyH _ _ _ _ _ _ _ (Act.put _ (some 123) _) _
        try simp only [Act.put, List.setIfInBounds_toArray, List.set_cons_zero, List.set_cons_succ]
        refine wpAnyH_ready (rs := [38]) (by kernel_rfl) (by simp) ?_
        refine AllReadyH.cons rfl (fun K hK => ?_) AllReadyH.nil
        go_simp
        refine (KH1.out _ B19.out).mono ?_
        rintro e w20 ⟨A20, cc20, rfl, _, b20⟩
        have T20 := Lib.hid (T19.out.trans (b20.mono T19.out.size))
        have B20 := Lib.hid (B19.out.trans (b20.mono B19.out.size))
        have hS20 : S w20 := keepS.out _ T20.out
        refine hK.out _ _ hS20 (fun _ => ?_)
        clear hK hS19 T19 B19 b20 KH1
        try simp only [Act.put, List.setIfInBounds_toArray, List.set_cons_zero, List.set_cons_succ]
        refine wpAnyH_take (i := 39) (v := (.int .i64 (z3 : Nat))) rfl (by kernel_rfl) (by kernel_rfl) (by kernel_rfl) (fun _ _ _ h => absurd h.1 (by simp)) (Or.inl ⟨by kernel_rfl, ?_⟩) hS20 ?_
        · intro W' hSw
          obtain ⟨k0, k1, k2, k3, k4⟩ := (hSd.out _).1 hSw
          go_simp
        try change wpAnyH _ _ _ _ _ _ _ (Act.put _ (some 120) _) _
        try simp only [Act.put, List.setIfInBounds_toArray, List.set_cons_zero, List.set_cons_succ]
        refine wpAnyH_ready (rs := [43]) (by kernel_rfl) (by simp) ?_
        refine AllReadyH.cons rfl (fun K hK => ?_) AllReadyH.nil
        go_simp
        refine (KH.out _ B20.out).mono ?_
        rintro e w21 ⟨A21, cc21, rfl, _, b21⟩
        have T21 := Lib.hid (T20.out.trans (b21.mono T20.out.size))
        have B21 := Lib.hid (B20.out.trans (b21.mono B20.out.size))
        have hS21 : S w21 := keepS.out _ T21.out
        refine hK.out _ _ hS21 (fun _ => ?_)
        clear hK hS20 T20 B20 b21 KH
        try simp only [Act.put, List.setIfInBounds_toArray, List.set_cons_zero, List.set_cons_succ]
        refine wpAnyH_take (i := 44) (v := (.int .i64 (z4 : Nat))) rfl (by kernel_rfl) (by kernel_rfl) (by kernel_rfl) (fun _ _ _ h => absurd h.1 (by simp)) (Or.inl ⟨by kernel_rfl, ?_⟩) hS21 ?_
        · intro W' hSw
          obtain ⟨k0, k1, k2, k3, k4⟩ := (hSd.out _).1 hSw
          go_simp
        try change wpAnyH _ _ _ _ _ _ _ (Act.put _ (some 125) _) _
        try simp only [Act.put, List.setIfInBounds_toArray, List.set_cons_zero, List.set_cons_succ]
        refine wpAnyH_take (i := 45) (v := (.bool true)) rfl (by kernel_rfl) (by kernel_rfl) (by kernel_rfl) (fun _ _ _ h => absurd h.1 (by simp)) (Or.inl ⟨by kernel_rfl, ?_⟩) hS21 ?_
        · intro W' hSw
          obtain ⟨k0, k1, k2, k3, k4⟩ := (hSd.out _).1 hSw
          go_simp
        try change wpAnyH _ _ _ _ _ _ _ (Act.put _ (some 126) _) _
        try simp only [Act.put, List.setIfInBounds_toArray, List.set_cons_zero, List.set_cons_succ]
        refine wpAnyH_take (i := 46) (v := (.bool true)) rfl (by kernel_rfl) (by kernel_rfl) (by kernel_rfl) (fun _ _ _ h => absurd h.1 (by simp)) (Or.inl ⟨by kernel_rfl, ?_⟩) hS21 ?_
        · intro W' hSw
          obtain ⟨k0, k1, k2, k3, k4⟩ := (hSd.out _).1 hSw
          go_simp
        try change wpAnyH _ _ _ _ _ _ _ (Act.put _ (some 127) _) _
        try simp only [Act.put, List.setIfInBounds_toArray, List.set_cons_zero, List.set_cons_succ]
        refine wpAnyH_take (i := 47) (v := (.bool true)) rfl (by kernel_rfl) (by kernel_rfl) (by kernel_rfl) (fun _ _ _ h => absurd h.1 (by simp)) (Or.inl ⟨by kernel_rfl, ?_⟩) hS21 ?_
        · intro W' hSw
          obtain ⟨k0, k1, k2, k3, k4⟩ := (hSd.out _).1 hSw
          go_simp
        try change wpAnyH _ _ _ _ _ _ _ (Act.put _ (some 128) _) _
        try simp only [Act.put, List.setIfInBounds_toArray, List.set_cons_zero, List.set_cons_succ]
        refine wpAnyH_take (i := 48) (v := (.slice A n cap)) rfl (by kernel_rfl) (by kernel_rfl) (by kernel_rfl) (fun _ _ _ h => absurd h.1 (by simp)) (Or.inl ⟨by kernel_rfl, ?_⟩) hS21 ?_
        · intro W' hSw
          obtain ⟨k0, k1, k2, k3, k4⟩ := (hSd.out _).1 hSw
          go_simp
        try change wpAnyH _ _ _ _ _ _ _ (Act.put _ (some 129) _) _
        try simp only [Act.put, List.setIfInBounds_toArray, List.set_cons_zero, List.set_cons_succ]
        refine wpAnyH_take (i := 49) (v := (.pointer (some ⟨bx, 3, none⟩))) rfl (by kernel_rfl) (by kernel_rfl) (by kernel_rfl) (fun _ _ _ h => absurd h.1 (by simp)) (Or.inl ⟨by kernel_rfl, ?_⟩) hS21 ?_
        · intro W' hSw
          obtain ⟨k0, k1, k2, k3, k4⟩ := (hSd.out _).1 hSw
          go_simp
        try change wpAnyH _ _ _ _ _ _ _ (Act.put _ (some 130) _) _
        try simp only [Act.put, List.setIfInBounds_toArray, List.set_cons_zero, List.set_cons_succ]
        refine wpAnyH_take (i := 50) (v := (.string ⟨a.toArray⟩)) rfl (by kernel_rfl) (by kernel_rfl) (by kernel_rfl) (fun _ _ _ h => absurd h.1 (by simp)) (Or.inl ⟨by kernel_rfl, ?_⟩) hS21 ?_
        · intro W' hSw
          obtain ⟨k0, k1, k2, k3, k4⟩ := (hSd.out _).1 hSw
          go_simp
        try change wpAnyH _ _ _ _ _ _ _ (Act.put _ (some 131) _) _
        try simp only [Act.put, List.setIfInBounds_toArray, List.set_cons_zero, List.set_cons_succ]
        refine wpAnyH_take (i := 51) (v := (.pointer (some ⟨bx, 4, none⟩))) rfl (by kernel_rfl) (by kernel_rfl) (by kernel_rfl) (fun _ _ _ h => absurd h.1 (by simp)) (Or.inl ⟨by kernel_rfl, ?_⟩) hS21 ?_
        · intro W' hSw
          obtain ⟨k0, k1, k2, k3, k4⟩ := (hSd.out _).1 hSw
          go_simp
        try change wpAnyH _ _ _ _ _ _ _ (Act.put _ (some 132) _) _
        try simp only [Act.put, List.setIfInBounds_toArray, List.set_cons_zero, List.set_cons_succ]
        refine wpAnyH_take (i := 52) (v := (.string ⟨b.toArray⟩)) rfl (by kernel_rfl) (by kernel_rfl) (by kernel_rfl) (fun _ _ _ h => absurd h.1 (by simp)) (Or.inl ⟨by kernel_rfl, ?_⟩) hS21 ?_
        · intro W' hSw
          obtain ⟨k0, k1, k2, k3, k4⟩ := (hSd.out _).1 hSw
          go_simp
        try change wpAnyH _ _ _ _ _ _ _ (Act.put _ (some 133) _) _
        try simp only [Act.put, List.setIfInBounds_toArray, List.set_cons_zero, List.set_cons_succ]
        refine wpAnyH_take (i := 54) (v := (.slice A n cap)) rfl (by kernel_rfl) (by kernel_rfl) (by kernel_rfl) (fun _ _ _ h => absurd h.1 (by simp)) (Or.inl ⟨by kernel_rfl, ?_⟩) hS21 ?_
        · intro W' hSw
          obtain ⟨k0, k1, k2, k3, k4⟩ := (hSd.out _).1 hSw
          go_simp
        try change wpAnyH _ _ _ _ _ _ _ (Act.put _ (some 135) _) _
        try simp only [Act.put, List.setIfInBounds_toArray, List.set_cons_zero, List.set_cons_succ]
        refine wpAnyH_take (i := 55) (v := (.pointer (some ⟨bx, 4, none⟩))) rfl (by kernel_rfl) (by kernel_rfl) (by kernel_rfl) (fun _ _ _ h => absurd h.1 (by simp)) (Or.inl ⟨by kernel_rfl, ?_⟩) hS21 ?_
        · intro W' hSw
          obtain ⟨k0, k1, k2, k3, k4⟩ := (hSd.out _).1 hSw
          go_simp
        try change wpAnyH _ _ _ _ _ _ _ (Act.put _ (some 136) _) _
        try simp only [Act.put, List.setIfInBounds_toArray, List.set_cons_zero, List.set_cons_succ]
        refine wpAnyH_take (i := 56) (v := (.string ⟨b.toArray⟩)) rfl (by kernel_rfl) (by kernel_rfl) (by kernel_rfl) (fun _ _ _ h => absurd h.1 (by simp)) (Or.inl ⟨by kernel_rfl, ?_⟩) hS21 ?_
        · intro W' hSw
          obtain ⟨k0, k1, k2, k3, k4⟩ := (hSd.out _).1 hSw
          go_simp
        try change wpAnyH _ _ _ _ _ _ _ (Act.put _ (some 137) _) _
        try simp only [Act.put, List.setIfInBounds_toArray, List.set_cons_zero, List.set_cons_succ]
        refine wpAnyH_take (i := 57) (v := (.pointer (some ⟨bx, 3, none⟩))) rfl (by kernel_rfl) (by kernel_rfl) (by kernel_rfl) (fun _ _ _ h => absurd h.1 (by simp)) (Or.inl ⟨by kernel_rfl, ?_⟩) hS21 ?_
        · intro W' hSw
          obtain ⟨k0, k1, k2, k3, k4⟩ := (hSd.out _).1 hSw
          go_simp
        try change wpAnyH _ _ _ _ _ _ _ (Act.put _ (some 138) _) _
        try simp only [Act.put, List.setIfInBounds_toArray, List.set_cons_zero, List.set_cons_succ]
        refine wpAnyH_take (i := 58) (v := (.string ⟨a.toArray⟩)) rfl (by kernel_rfl) (by kernel_rfl) (by kernel_rfl) (fun _ _ _ h => absurd h.1 (by simp)) (Or.inl ⟨by kernel_rfl, ?_⟩) hS21 ?_
        · intro W' hSw
          obtain ⟨k0, k1, k2, k3, k4⟩ := (hSd.out _).1 hSw
          go_simp
        try change wpAnyH _ _ _ _ _ _ _ (Act.put _ (some 139) _) _
        try simp only [Act.put, List.setIfInBounds_toArray, List.set_cons_zero, List.set_cons_succ]
        refine wpAnyH_ready (rs := [53]) (by kernel_rfl) (by simp) ?_
        refine AllReadyH.cons rfl (fun K hK => ?_) AllReadyH.nil
        go_simp
        refine (KA.out _ B21.out).mono ?_
        rintro e w22 ⟨rfl, b22⟩
        have T22 := Lib.hid (T21.out.trans (b22.mono T21.out.size))
        have B22 := Lib.hid (B21.out.trans (b22.mono B21.out.size))
        have hS22 : S w22 := keepS.out _ T22.out
        refine hK.out _ _ hS22 (fun _ => ?_)
        clear hK hS21 T21 B21 b22 KA
        try simp only [Act.put, List.setIfInBounds_toArray, List.set_cons_zero, List.set_cons_succ]
        refine wpAnyH_ready (rs := [59]) (by kernel_rfl) (by simp) ?_
        refine AllReadyH.cons rfl (fun K hK => ?_) AllReadyH.nil
        go_simp
        refine (KAr.out _ B22.out).mono ?_
        rintro e w23 ⟨rfl, b23⟩
        have T23 := Lib.hid (T22.out.trans (b23.mono T22.out.size))
        have B23 := Lib.hid (B22.out.trans (b23.mono B22.out.size))
        have hS23 : S w23 := keepS.out _ T23.out
        refine hK.out _ _ hS23 (fun _ => ?_)
        clear hK hS22 T22 B22 b23 KAr
        try simp only [Act.put, List.setIfInBounds_toArray, List.set_cons_zero, List.set_cons_succ]
        refine wpAnyH_take (i := 60) (v := (.bool true)) rfl (by kernel_rfl) (by kernel_rfl) (by kernel_rfl) (fun _ _ _ h => absurd h.1 (by simp)) (Or.inl ⟨by kernel_rfl, ?_⟩) hS23 ?_
        · intro W' hSw
          obtain ⟨k0, k1, k2, k3, k4⟩ := (hSd.out _).1 hSw
          go_simp
        try change wpAnyH _ _ _ _ _ _ _ (Act.put _ (some 141) _) _
        try simp only [Act.put, List.setIfInBounds_toArray, List.set_cons_zero, List.set_cons_succ]
        refine wpAnyH_take (i := 61) (v := (.bool true)) rfl (by kernel_rfl) (by kernel_rfl) (by kernel_rfl) (fun _ _ _ h => absurd h.1 (by simp)) (Or.inl ⟨by kernel_rfl, ?_⟩) hS23 ?_
        · intro W' hSw
          obtain ⟨k0, k1, k2, k3, k4⟩ := (hSd.out _).1 hSw
          go_simp
        try change wpAnyH _ _ _ _ _ _ _ (Act.put _ (some 142) _) _
        try simp only [Act.put, List.setIfInBounds_toArray, List.set_cons_zero, List.set_cons_succ]
        refine wpAnyH_take (i := 62) (v := (.bool true)) rfl (by kernel_rfl) (by kernel_rfl) (by kernel_rfl) (fun _ _ _ h => absurd h.1 (by simp)) (Or.inl ⟨by kernel_rfl, ?_⟩) hS23 ?_
        · intro W' hSw
          obtain ⟨k0, k1, k2, k3, k4⟩ := (hSd.out _).1 hSw
          go_simp
        try change wpAnyH _ _ _ _ _ _ _ (Act.put _ (some 4) _) _
        try simp only [Act.put, List.setIfInBounds_toArray, List.set_cons_zero, List.set_cons_succ]
        refine wpAnyH_done (by kernel_rfl) ?_ _
        refine ⟨rfl, ?_⟩
        go_wp2_with fail
        go_ret
        exact ⟨rfl, B23.out⟩
      · obtain rfl : ab = true := hal rfl
        refine wpAnyH_take (i := 0) (v := (.slice A n cap)) rfl (by kernel_rfl) (by kernel_rfl) (by kernel_rfl) (fun _ _ _ h => absurd h.1 (by simp)) (Or.inl ⟨by kernel_rfl, ?_⟩) hS16 ?_
        · intro W' hSw
          obtain ⟨k0, k1, k2, k3, k4⟩ := (hSd.out _).1 hSw
          go_simp
        try change wpAnyH _ _ _ _ _ _ _ (Act.put _ (some 81) _) _
        try simp only [Act.put, List.setIfInBounds_toArray, List.set_cons_zero, List.set_cons_succ]
        refine wpAnyH_take (i := 1) (v := (.int .i64 (kk : Nat))) rfl (by kernel_rfl) (by kernel_rfl) (by kernel_rfl) (fun _ _ _ h => absurd h.1 (by simp)) (Or.inl ⟨by kernel_rfl, ?_⟩) hS16 ?_
        · intro W' hSw
          obtain ⟨k0, k1, k2, k3, k4⟩ := (hSd.out _).1 hSw
          go_simp
        try change wpAnyH _ _ _ _ _ _ _ (Act.put _ (some 82) _) _
        try simp only [Act.put, List.setIfInBounds_toArray, List.set_cons_zero, List.set_cons_succ]
        refine wpAnyH_take (i := 2) (v := (.slice A kk cap)) rfl (by kernel_rfl) (by kernel_rfl) (by kernel_rfl) (fun _ _ _ h => absurd h.1 (by simp)) (Or.inl ⟨by kernel_rfl, ?_⟩) hS16 ?_
        · intro W' hSw
          obtain ⟨k0, k1, k2, k3, k4⟩ := (hSd.out _).1 hSw
          go_simp
        try change wpAnyH _ _ _ _ _ _ _ (Act.put _ (some 83) _) _
        try simp only [Act.put, List.setIfInBounds_toArray, List.set_cons_zero, List.set_cons_succ]
        refine wpAnyH_take (i := 3) (v := (.pointer (some ⟨bx, 3, none⟩))) rfl (by kernel_rfl) (by kernel_rfl) (by kernel_rfl) (fun _ _ _ h => absurd h.1 (by simp)) (Or.inl ⟨by kernel_rfl, ?_⟩) hS16 ?_
        · intro W' hSw
          obtain ⟨k0, k1, k2, k3, k4⟩ := (hSd.out _).1 hSw
          go_simp
        try change wpAnyH _ _ _ _ _ _ _ (Act.put _ (some 84) _) _
        try simp only [Act.put, List.setIfInBounds_toArray, List.set_cons_zero, List.set_cons_succ]
        refine wpAnyH_take (i := 4) (v := (.string ⟨a.toArray⟩)) rfl (by kernel_rfl) (by kernel_rfl) (by kernel_rfl) (fun _ _ _ h => absurd h.1 (by simp)) (Or.inl ⟨by kernel_rfl, ?_⟩) hS16 ?_
        · intro W' hSw
          obtain ⟨k0, k1, k2, k3, k4⟩ := (hSd.out _).1 hSw
          go_simp
        try change wpAnyH _ _ _ _ _ _ _ (Act.put _ (some 85) _) _
        try simp only [Act.put, List.setIfInBounds_toArray, List.set_cons_zero, List.set_cons_succ]
        refine wpAnyH_take (i := 5) (v := (.pointer (some ⟨bx, 4, none⟩))) rfl (by kernel_rfl) (by kernel_rfl) (by kernel_rfl) (fun _ _ _ h => absurd h.1 (by simp)) (Or.inl ⟨by kernel_rfl, ?_⟩) hS16 ?_
        · intro W' hSw
          obtain ⟨k0, k1, k2, k3, k4⟩ := (hSd.out _).1 hSw
          go_simp
        try change wpAnyH _ _ _ _ _ _ _ (Act.put _ (some 86) _) _
        try simp only [Act.put, List.setIfInBounds_toArray, List.set_cons_zero, List.set_cons_succ]
        refine wpAnyH_take (i := 6) (v := (.string ⟨b.toArray⟩)) rfl (by kernel_rfl) (by kernel_rfl) (by kernel_rfl) (fun _ _ _ h => absurd h.1 (by simp)) (Or.inl ⟨by kernel_rfl, ?_⟩) hS16 ?_
        · intro W' hSw
          obtain ⟨k0, k1, k2, k3, k4⟩ := (hSd.out _).1 hSw
          go_simp
        try change wpAnyH _ _ _ _ _ _ _ (Act.put _ (some 87) _) _
        try simp only [Act.put, List.setIfInBounds_toArray, List.set_cons_zero, List.set_cons_succ]
        refine wpAnyH_ready (rs := [7]) (by kernel_rfl) (by simp) ?_
        refine AllReadyH.cons rfl (fun K hK => ?_) AllReadyH.nil
        go_simp
        refine (KA1.out _ B16.out).mono ?_
        rintro e w17 ⟨rfl, b17⟩
        have T17 := Lib.hid (T16.out.trans (b17.mono T16.out.size))
        have B17 := Lib.hid (B16.out.trans (b17.mono B16.out.size))
        have hS17 : S w17 := keepS.out _ T17.out
        refine hK.out _ _ hS17 (fun _ => ?_)
        clear hK hS16 T16 B16 b17 KA1
        try simp only [Act.put, List.setIfInBounds_toArray, List.set_cons_zero, List.set_cons_succ]
        refine wpAnyH_take (i := 8) (v := (.bool false)) rfl (by kernel_rfl) (by kernel_rfl) (by kernel_rfl) (fun _ _ _ h => absurd h.1 (by simp)) (Or.inl ⟨by kernel_rfl, ?_⟩) hS17 ?_
        · intro W' hSw
          obtain ⟨k0, k1, k2, k3, k4⟩ := (hSd.out _).1 hSw
          go_simp
        try change wpAnyH _ _ _ _ _ _ _ (Act.put _ (some 89) _) _
        try simp only [Act.put, List.setIfInBounds_toArray, List.set_cons_zero, List.set_cons_succ]
        refine wpAnyH_take (i := 9) (v := (.bool false)) rfl (by kernel_rfl) (by kernel_rfl) (by kernel_rfl) (fun _ _ _ h => absurd h.1 (by simp)) (Or.inl ⟨by kernel_rfl, ?_⟩) hS17 ?_
        · intro W' hSw
          obtain ⟨k0, k1, k2, k3, k4⟩ := (hSd.out _).1 hSw
          go_simp
        try change wpAnyH _ _ _ _ _ _ _ (Act.put _ (some 90) _) _
        try simp only [Act.put, List.setIfInBounds_toArray, List.set_cons_zero, List.set_cons_succ]
        refine wpAnyH_take (i := 10) (v := (.slice A n cap)) rfl (by kernel_rfl) (by kernel_rfl) (by kernel_rfl) (fun _ _ _ h => absurd h.1 (by simp)) (Or.inl ⟨by kernel_rfl, ?_⟩) hS17 ?_
        · intro W' hSw
          obtain ⟨k0, k1, k2, k3, k4⟩ := (hSd.out _).1 hSw
          go_simp
        try change wpAnyH _ _ _ _ _ _ _ (Act.put _ (some 91) _) _
        try simp only [Act.put, List.setIfInBounds_toArray, List.set_cons_zero, List.set_cons_succ]
        refine wpAnyH_take (i := 11) (v := (.pointer (some ⟨bx, 3, none⟩))) rfl (by kernel_rfl) (by kernel_rfl) (by kernel_rfl) (fun _ _ _ h => absurd h.1 (by simp)) (Or.inl ⟨by kernel_rfl, ?_⟩) hS17 ?_
        · intro W' hSw
          obtain ⟨k0, k1, k2, k3, k4⟩ := (hSd.out _).1 hSw
          go_simp
        try change wpAnyH _ _ _ _ _ _ _ (Act.put _ (some 92) _) _
        try simp only [Act.put, List.setIfInBounds_toArray, List.set_cons_zero, List.set_cons_succ]
        refine wpAnyH_take (i := 12) (v := (.string ⟨a.toArray⟩)) rfl (by kernel_rfl) (by kernel_rfl) (by kernel_rfl) (fun _ _ _ h => absurd h.1 (by simp)) (Or.inl ⟨by kernel_rfl, ?_⟩) hS17 ?_
        · intro W' hSw
          obtain ⟨k0, k1, k2, k3, k4⟩ := (hSd.out _).1 hSw
          go_simp
        try change wpAnyH _ _ _ _ _ _ _ (Act.put _ (some 93) _) _
        try simp only [Act.put, List.setIfInBounds_toArray, List.set_cons_zero, List.set_cons_succ]
        refine wpAnyH_take (i := 13) (v := (.pointer (some ⟨bx, 4, none⟩))) rfl (by kernel_rfl) (by kernel_rfl) (by kernel_rfl) (fun _ _ _ h => absurd h.1 (by simp)) (Or.inl ⟨by kernel_rfl, ?_⟩) hS17 ?_
        · intro W' hSw
          obtain ⟨k0, k1, k2, k3, k4⟩ := (hSd.out _).1 hSw
          go_simp
        try change wpAnyH _ _ _ _ _ _ _ (Act.put _ (some 94) _) _
        try simp only [Act.put, List.setIfInBounds_toArray, List.set_cons_zero, List.set_cons_succ]
        refine wpAnyH_take (i := 14) (v := (.string ⟨b.toArray⟩)) rfl (by kernel_rfl) (by kernel_rfl) (by kernel_rfl) (fun _ _ _ h => absurd h.1 (by simp)) (Or.inl ⟨by kernel_rfl, ?_⟩) hS17 ?_
        · intro W' hSw
          obtain ⟨k0, k1, k2, k3, k4⟩ := (hSd.out _).1 hSw
          go_simp
        try change wpAnyH _ _ _ _ _ _ _ (Act.put _ (some 95) _) _
        try simp only [Act.put, List.setIfInBounds_toArray, List.set_cons_zero, List.set_cons_succ]
        refine wpAnyH_ready (rs := [15]) (by kernel_rfl) (by simp) ?_
        refine AllReadyH.cons rfl (fun K hK => ?_) AllReadyH.nil
        go_simp
        refine (KA.out _ B17.out).mono ?_
        rintro e w18 ⟨rfl, b18⟩
        have T18 := Lib.hid (T17.out.trans (b18.mono T17.out.size))
        have B18 := Lib.hid (B17.out.trans (b18.mono B17.out.size))
        have hS18 : S w18 := keepS.out _ T18.out
        refine hK.out _ _ hS18 (fun _ => ?_)
        clear hK hS17 T17 B17 b18 
        try simp only [Act.put, List.setIfInBounds_toArray, List.set_cons_zero, List.set_cons_succ]
        refine wpAnyH_take (i := 16) (v := (.bool true)) rfl (by kernel_rfl) (by kernel_rfl) (by kernel_rfl) (fun _ _ _ h => absurd h.1 (by simp)) (Or.inl ⟨by kernel_rfl, ?_⟩) hS18 ?_
        · intro W' hSw
          obtain ⟨k0, k1, k2, k3, k4⟩ := (hSd.out _).1 hSw
          go_simp
        try change wpAnyH _ _ _ _ _ _ _ (Act.put _ (some 97) _) _
        try simp only [Act.put, List.setIfInBounds_toArray, List.set_cons_zero, List.set_cons_succ]
        refine wpAnyH_take (i := 17) (v := (.bool true)) rfl (by kernel_rfl) (by kernel_rfl) (by kernel_rfl) (fun _ _ _ h => absurd h.1 (by simp)) (Or.inl ⟨by kernel_rfl, ?_⟩) hS18 ?_
        · intro W' hSw
          obtain ⟨k0, k1, k2, k3, k4⟩ := (hSd.out _).1 hSw
          go_simp
        try change wpAnyH _ _ _ _ _ _ _ (Act.put _ (some 98) _) _
        try simp only [Act.put, List.setIfInBounds_toArray, List.set_cons_zero, List.set_cons_succ]
        refine wpAnyH_take (i := 18) (v := (.slice A n cap)) rfl (by kernel_rfl) (by kernel_rfl) (by kernel_rfl) (fun _ _ _ h => absurd h.1 (by simp)) (Or.inl ⟨by kernel_rfl, ?_⟩) hS18 ?_
        · intro W' hSw
          obtain ⟨k0, k1, k2, k3, k4⟩ := (hSd.out _).1 hSw
          go_simp
        try change wpAnyH _ _ _ _ _ _ _ (Act.put _ (some 99) _) _
        try simp only [Act.put, List.setIfInBounds_toArray, List.set_cons_zero, List.set_cons_succ]
        refine wpAnyH_take (i := 19) (v := (.int .i64 (kk : Nat))) rfl (by kernel_rfl) (by kernel_rfl) (by kernel_rfl) (fun _ _ _ h => absurd h.1 (by simp)) (Or.inl ⟨by kernel_rfl, ?_⟩) hS18 ?_
        · intro W' hSw
          obtain ⟨k0, k1, k2, k3, k4⟩ := (hSd.out _).1 hSw
          go_simp
        try change wpAnyH _ _ _ _ _ _ _ (Act.put _ (some 100) _) _
        try simp only [Act.put, List.setIfInBounds_toArray, List.set_cons_zero, List.set_cons_succ]
        refine wpAnyH_take (i := 20) (v := (.slice A kk cap)) rfl (by kernel_rfl) (by kernel_rfl) (by kernel_rfl) (fun _ _ _ h => absurd h.1 (by simp)) (Or.inl ⟨by kernel_rfl, ?_⟩) hS18 ?_
        · intro W' hSw
          obtain ⟨k0, k1, k2, k3, k4⟩ := (hSd.out _).1 hSw
          go_simp
        try change wpAnyH _ _ _ _ _ _ _ (Act.put _ (some 101) _) _
        try simp only [Act.put, List.setIfInBounds_toArray, List.set_cons_zero, List.set_cons_succ]
        refine wpAnyH_take (i := 21) (v := (.pointer (some ⟨bx, 3, none⟩))) rfl (by kernel_rfl) (by kernel_rfl) (by kernel_rfl) (fun _ _ _ h => absurd h.1 (by simp)) (Or.inl ⟨by kernel_rfl, ?_⟩) hS18 ?_
        · intro W' hSw
          obtain ⟨k0, k1, k2, k3, k4⟩ := (hSd.out _).1 hSw
          go_simp
        try change wpAnyH _ _ _ _ _ _ _ (Act.put _ (some 102) _) _
        try simp only [Act.put, List.setIfInBounds_toArray, List.set_cons_zero, List.set_cons_succ]
        refine wpAnyH_take (i := 22) (v := (.string ⟨a.toArray⟩)) rfl (by kernel_rfl) (by kernel_rfl) (by kernel_rfl) (fun _ _ _ h => absurd h.1 (by simp)) (Or.inl ⟨by kernel_rfl, ?_⟩) hS18 ?_
        · intro W' hSw
          obtain ⟨k0, k1, k2, k3, k4⟩ := (hSd.out _).1 hSw
          go_simp
        try change wpAnyH _ _ _ _ _ _ _ (Act.put _ (some 103) _) _
        try simp only [Act.put, List.setIfInBounds_toArray, List.set_cons_zero, List.set_cons_succ]
        refine wpAnyH_take (i := 25) (v := (.slice A n cap)) rfl (by kernel_rfl) (by kernel_rfl) (by kernel_rfl) (fun _ _ _ h => absurd h.1 (by simp)) (Or.inl ⟨by kernel_rfl, ?_⟩) hS18 ?_
        · intro W' hSw
          obtain ⟨k0, k1, k2, k3, k4⟩ := (hSd.out _).1 hSw
          go_simp
        try change wpAnyH _ _ _ _ _ _ _ (Act.put _ (some 106) _) _
        try simp only [Act.put, List.setIfInBounds_toArray, List.set_cons_zero, List.set_cons_succ]
        refine wpAnyH_take (i := 26) (v := (.pointer (some ⟨bx, 3, none⟩))) rfl (by kernel_rfl) (by kernel_rfl) (by kernel_rfl) (fun _ _ _ h => absurd h.1 (by simp)) (Or.inl ⟨by kernel_rfl, ?_⟩) hS18 ?_
        · intro W' hSw
          obtain ⟨k0, k1, k2, k3, k4⟩ := (hSd.out _).1 hSw
          go_simp
        try change wpAnyH _ _ _ _ _ _ _ (Act.put _ (some 107) _) _
        try simp only [Act.put, List.setIfInBounds_toArray, List.set_cons_zero, List.set_cons_succ]
        refine wpAnyH_take (i := 27) (v := (.string ⟨a.toArray⟩)) rfl (by kernel_rfl) (by kernel_rfl) (by kernel_rfl) (fun _ _ _ h => absurd h.1 (by simp)) (Or.inl ⟨by kernel_rfl, ?_⟩) hS18 ?_
        · intro W' hSw
          obtain ⟨k0, k1, k2, k3, k4⟩ := (hSd.out _).1 hSw
          go_simp
        try change wpAnyH _ _ _ _ _ _ _ (Act.put _ (some 108) _) _
        try simp only [Act.put, List.setIfInBounds_toArray, List.set_cons_zero, List.set_cons_succ]
        refine wpAnyH_ready (rs := [23]) (by kernel_rfl) (by simp) ?_
        refine AllReadyH.cons rfl (fun K hK => ?_) AllReadyH.nil
        go_simp
        refine (KC1.out _ B18.out).mono ?_
        rintro e w19 ⟨A19, cc19, rfl, _, b19⟩
        have T19 := Lib.hid (T18.out.trans (b19.mono T18.out.size))
        have B19 := Lib.hid (B18.out.trans (b19.mono B18.out.size))
        have hS19 : S w19 := keepS.out _ T19.out
        refine hK.out _ _ hS19 (fun _ => ?_)
        clear hK hS18 T18 B18 b19 KC1
        try simp only [Act.put, List.setIfInBounds_toArray, List.set_cons_zero, List.set_cons_succ]
        refine wpAnyH_take (i := 24) (v := (.int .i64 (z1 : Nat))) rfl (by kernel_rfl) (by kernel_rfl) (by kernel_rfl) (fun _ _ _ h => absurd h.1 (by simp)) (Or.inl ⟨by kernel_rfl, ?_⟩) hS19 ?_
        · intro W' hSw
          obtain ⟨k0, k1, k2, k3, k4⟩ := (hSd.out _).1 hSw
          go_simp
        try change wpAnyH _ _ _ _ _ _ _ (Act.put _ (some 105) _) _
        try simp only [Act.put, List.setIfInBounds_toArray, List.set_cons_zero, List.set_cons_succ]
        refine wpAnyH_ready (rs := [28]) (by kernel_rfl) (by simp) ?_
        refine AllReadyH.cons rfl (fun K hK => ?_) AllReadyH.nil
        go_simp
        refine (KC.out _ B19.out).mono ?_
        rintro e w20 ⟨A20, cc20, rfl, _, b20⟩
        have T20 := Lib.hid (T19.out.trans (b20.mono T19.out.size))
        have B20 := Lib.hid (B19.out.trans (b20.mono B19.out.size))
        have hS20 : S w20 := keepS.out _ T20.out
        refine hK.out _ _ hS20 (fun _ => ?_)
        clear hK hS19 T19 B19 b20 KC
        try simp only [Act.put, List.setIfInBounds_toArray, List.set_cons_zero, List.set_cons_succ]
        refine wpAnyH_take (i := 29) (v := (.int .i64 (z2 : Nat))) rfl (by kernel_rfl) (by kernel_rfl) (by kernel_rfl) (fun _ _ _ h => absurd h.1 (by simp)) (Or.inl ⟨by kernel_rfl, ?_⟩) hS20 ?_
        · intro W' hSw
          obtain ⟨k0, k1, k2, k3, k4⟩ := (hSd.out _).1 hSw
          go_simp
        try change wpAnyH _ _ _ _ _ _ _ (Act.put _ (some 110) _) _
        try simp only [Act.put, List.setIfInBounds_toArray, List.set_cons_zero, List.set_cons_succ]
        refine wpAnyH_take (i := 30) (v := (.bool true)) rfl (by kernel_rfl) (by kernel_rfl) (by kernel_rfl) (fun _ _ _ h => absurd h.1 (by simp)) (Or.inl ⟨by kernel_rfl, ?_⟩) hS20 ?_
        · intro W' hSw
          obtain ⟨k0, k1, k2, k3, k4⟩ := (hSd.out _).1 hSw
          go_simp
        try change wpAnyH _ _ _ _ _ _ _ (Act.put _ (some 111) _) _
        try simp only [Act.put, List.setIfInBounds_toArray, List.set_cons_zero, List.set_cons_succ]
        refine wpAnyH_take (i := 31) (v := (.bool true)) rfl (by kernel_rfl) (by kernel_rfl) (by kernel_rfl) (fun _ _ _ h => absurd h.1 (by simp)) (Or.inl ⟨by kernel_rfl, ?_⟩) hS20 ?_
        · intro W' hSw
          obtain ⟨k0, k1, k2, k3, k4⟩ := (hSd.out _).1 hSw
          go_simp
        try change wpAnyH _ _ _ _ _ _ _ (Act.put _ (some 112) _) _
        try simp only [Act.put, List.setIfInBounds_toArray, List.set_cons_zero, List.set_cons_succ]
        refine wpAnyH_take (i := 32) (v := (.bool true)) rfl (by kernel_rfl) (by kernel_rfl) (by kernel_rfl) (fun _ _ _ h => absurd h.1 (by simp)) (Or.inl ⟨by kernel_rfl, ?_⟩) hS20 ?_
        · intro W' hSw
          obtain ⟨k0, k1, k2, k3, k4⟩ := (hSd.out _).1 hSw
          go_simp
        try change wpAnyH _ _ _ _ _ _ _ (Act.put _ (some 113) _) _
        try simp only [Act.put, List.setIfInBounds_toArray, List.set_cons_zero, List.set_cons_succ]
        refine wpAnyH_take (i := 33) (v := (.slice A n cap)) rfl (by kernel_rfl) (by kernel_rfl) (by kernel_rfl) (fun _ _ _ h => absurd h.1 (by simp)) (Or.inl ⟨by kernel_rfl, ?_⟩) hS20 ?_
        · intro W' hSw
          obtain ⟨k0, k1, k2, k3, k4⟩ := (hSd.out _).1 hSw
          go_simp
        try change wpAnyH _ _ _ _ _ _ _ (Act.put _ (some 114) _) _
        try simp only [Act.put, List.setIfInBounds_toArray, List.set_cons_zero, List.set_cons_succ]
        refine wpAnyH_take (i := 34) (v := (.int .i64 (kk : Nat))) rfl (by kernel_rfl) (by kernel_rfl) (by kernel_rfl) (fun _ _ _ h => absurd h.1 (by simp)) (Or.inl ⟨by kernel_rfl, ?_⟩) hS20 ?_
        · intro W' hSw
          obtain ⟨k0, k1, k2, k3, k4⟩ := (hSd.out _).1 hSw
          go_simp
        try change wpAnyH _ _ _ _ _ _ _ (Act.put _ (some 115) _) _
        try simp only [Act.put, List.setIfInBounds_toArray, List.set_cons_zero, List.set_cons_succ]
        refine wpAnyH_take (i := 35) (v := (.slice A kk cap)) rfl (by kernel_rfl) (by kernel_rfl) (by kernel_rfl) (fun _ _ _ h => absurd h.1 (by simp)) (Or.inl ⟨by kernel_rfl, ?_⟩) hS20 ?_
        · intro W' hSw
          obtain ⟨k0, k1, k2, k3, k4⟩ := (hSd.out _).1 hSw
          go_simp
        try change wpAnyH _ _ _ _ _ _ _ (Act.put _ (some 116) _) _
        try simp only [Act.put, List.setIfInBounds_toArray, List.set_cons_zero, List.set_cons_succ]
        refine wpAnyH_take (i := 36) (v := (.pointer (some ⟨bx, 3, none⟩))) rfl (by kernel_rfl) (by kernel_rfl) (by kernel_rfl) (fun _ _ _ h => absurd h.1 (by simp)) (Or.inl ⟨by kernel_rfl, ?_⟩) hS20 ?_
        · intro W' hSw
          obtain ⟨k0, k1, k2, k3, k4⟩ := (hSd.out _).1 hSw
          go_simp
        try change wpAnyH _ _ _ _ _ _ _ (Act.put _ (some 117) _) _
        try simp only [Act.put, List.setIfInBounds_toArray, List.set_cons_zero, List.set_cons_succ]
        refine wpAnyH_take (i := 37) (v := (.string ⟨a.toArray⟩)) rfl (by kernel_rfl) (by kernel_rfl) (by kernel_rfl) (fun _ _ _ h => absurd h.1 (by simp)) (Or.inl ⟨by kernel_rfl, ?_⟩) hS20 ?_
        · intro W' hSw
          obtain ⟨k0, k1, k2, k3, k4⟩ := (hSd.out _).1 hSw
          go_simp
        try change wpAnyH _ _ _ _ _ _ _ (Act.put _ (some 118) _) _
        try simp only [Act.put, List.setIfInBounds_toArray, List.set_cons_zero, List.set_cons_succ]
        refine wpAnyH_take (i := 40) (v := (.slice A n cap)) rfl (by kernel_rfl) (by kernel_rfl) (by kernel_rfl) (fun _ _ _ h => absurd h.1 (by simp)) (Or.inl ⟨by kernel_rfl, ?_⟩) hS20 ?_
        · intro W' hSw
          obtain ⟨k0, k1, k2, k3, k4⟩ := (hSd.out _).1 hSw
          go_simp
        try change wpAnyH _ _ _ _ _ _ _ (Act.put _ (some 121) _) _
        try simp only [Act.put, List.setIfInBounds_toArray, List.set_cons_zero, List.set_cons_succ]
        refine wpAnyH_take (i := 41) (v := (.pointer (some ⟨bx, 3, none⟩))) rfl (by kernel_rfl) (by kernel_rfl) (by kernel_rfl) (fun _ _ _ h => absurd h.1 (by simp)) (Or.inl ⟨by kernel_rfl, ?_⟩) hS20 ?_
        · intro W' hSw
          obtain ⟨k0, k1, k2, k3, k4⟩ := (hSd.out _).1 hSw
          go_simp
        try change wpAnyH _ _ _ _ _ _ _ (Act.put _ (some 122) _) _
        try simp only [Act.put, List.setIfInBounds_toArray, List.set_cons_zero, List.set_cons_succ]
        refine wpAnyH_take (i := 42) (v := (.string ⟨a.toArray⟩)) rfl (by kernel_rfl) (by kernel_rfl) (by kernel_rfl) (fun _ _ _ h => absurd h.1 (by simp)) (Or.inl ⟨by kernel_rfl, ?_⟩) hS20 ?_
        · intro W' hSw
          obtain ⟨k0, k1, k2, k3, k4⟩ := (hSd.out _).1 hSw
          go_simp
        try change wpAnyH _ _ _ _ _ _ _ (Act.put _ (some 123) _) _
        try simp only [Act.put, List.setIfInBounds_toArray, List.set_cons_zero, List.set_cons_succ]
        refine wpAnyH_ready (rs := [38]) (by kernel_rfl) (by simp) ?_
        refine AllReadyH.cons rfl (fun K hK => ?_) AllReadyH.nil
        go_simp
        refine (KH1.out _ B20.out).mono ?_
        rintro e w21 ⟨A21, cc21, rfl, _, b21⟩
        have T21 := Lib.hid (T20.out.trans (b21.mono T20.out.size))
        have B21 := Lib.hid (B20.out.trans (b21.mono B20.out.size))
        have hS21 : S w21 := keepS.out _ T21.out
        refine hK.out _ _ hS21 (fun _ => ?_)
        clear hK hS20 T20 B20 b21 KH1
        try simp only [Act.put, List.setIfInBounds_toArray, List.set_cons_zero, List.set_cons_succ]
        refine wpAnyH_take (i := 39) (v := (.int .i64 (z3 : Nat))) rfl (by kernel_rfl) (by kernel_rfl) (by kernel_rfl) (fun _ _ _ h => absurd h.1 (by simp)) (Or.inl ⟨by kernel_rfl, ?_⟩) hS21 ?_
        · intro W' hSw
          obtain ⟨k0, k1, k2, k3, k4⟩ := (hSd.out _).1 hSw
          go_simp
        try change wpAnyH _ _ _ _ _ _ _ (Act.put _ (some 120) _) _
        try simp only [Act.put, List.setIfInBounds_toArray, List.set_cons_zero, List.set_cons_succ]
        refine wpAnyH_ready (rs := [43]) (by kernel_rfl) (by simp) ?_
        refine AllReadyH.cons rfl (fun K hK => ?_) AllReadyH.nil
        go_simp
        refine (KH.out _ B21.out).mono ?_
        rintro e w22 ⟨A22, cc22, rfl, _, b22⟩
        have T22 := Lib.hid (T21.out.trans (b22.mono T21.out.size))
        have B22 := Lib.hid (B21.out.trans (b22.mono B21.out.size))
        have hS22 : S w22 := keepS.out _ T22.out
        refine hK.out _ _ hS22 (fun _ => ?_)
        clear hK hS21 T21 B21 b22 KH
        try simp only [Act.put, List.setIfInBounds_toArray, List.set_cons_zero, List.set_cons_succ]
        refine wpAnyH_take (i := 44) (v := (.int .i64 (z4 : Nat))) rfl (by kernel_rfl) (by kernel_rfl) (by kernel_rfl) (fun _ _ _ h => absurd h.1 (by simp)) (Or.inl ⟨by kernel_rfl, ?_⟩) hS22 ?_
        · intro W' hSw
          obtain ⟨k0, k1, k2, k3, k4⟩ := (hSd.out _).1 hSw
          go_simp
        try change wpAnyH _ _ _ _ _ _ _ (Act.put _ (some 125) _) _
        try simp only [Act.put, List.setIfInBounds_toArray, List.set_cons_zero, List.set_cons_succ]
        refine wpAnyH_take (i := 45) (v := (.bool true)) rfl (by kernel_rfl) (by kernel_rfl) (by kernel_rfl) (fun _ _ _ h => absurd h.1 (by simp)) (Or.inl ⟨by kernel_rfl, ?_⟩) hS22 ?_
        · intro W' hSw
          obtain ⟨k0, k1, k2, k3, k4⟩ := (hSd.out _).1 hSw
          go_simp
        try change wpAnyH _ _ _ _ _ _ _ (Act.put _ (some 126) _) _
        try simp only [Act.put, List.setIfInBounds_toArray, List.set_cons_zero, List.set_cons_succ]
        refine wpAnyH_take (i := 46) (v := (.bool true)) rfl (by kernel_rfl) (by kernel_rfl) (by kernel_rfl) (fun _ _ _ h => absurd h.1 (by simp)) (Or.inl ⟨by kernel_rfl, ?_⟩) hS22 ?_
        · intro W' hSw
          obtain ⟨k0, k1, k2, k3, k4⟩ := (hSd.out _).1 hSw
          go_simp
        try change wpAnyH _ _ _ _ _ _ _ (Act.put _ (some 127) _) _
        try simp only [Act.put, List.setIfInBounds_toArray, List.set_cons_zero, List.set_cons_succ]
        refine wpAnyH_take (i := 47) (v := (.bool true)) rfl (by kernel_rfl) (by kernel_rfl) (by kernel_rfl) (fun _ _ _ h => absurd h.1 (by simp)) (Or.inl ⟨by kernel_rfl, ?_⟩) hS22 ?_
        · intro W' hSw
          obtain ⟨k0, k1, k2, k3, k4⟩ := (hSd.out _).1 hSw
          go_simp
        try change wpAnyH _ _ _ _ _ _ _ (Act.put _ (some 128) _) _
        try simp only [Act.put, List.setIfInBounds_toArray, List.set_cons_zero, List.set_cons_succ]
        refine wpAnyH_take (i := 48) (v := (.slice A n cap)) rfl (by kernel_rfl) (by kernel_rfl) (by kernel_rfl) (fun _ _ _ h => absurd h.1 (by simp)) (Or.inl ⟨by kernel_rfl, ?_⟩) hS22 ?_
        · intro W' hSw
          obtain ⟨k0, k1, k2, k3, k4⟩ := (hSd.out _).1 hSw
          go_simp
        try change wpAnyH _ _ _ _ _ _ _ (Act.put _ (some 129) _) _
        try simp only [Act.put, List.setIfInBounds_toArray, List.set_cons_zero, List.set_cons_succ]
        refine wpAnyH_take (i := 49) (v := (.pointer (some ⟨bx, 3, none⟩))) rfl (by kernel_rfl) (by kernel_rfl) (by kernel_rfl) (fun _ _ _ h => absurd h.1 (by simp)) (Or.inl ⟨by kernel_rfl, ?_⟩) hS22 ?_
        · intro W' hSw
          obtain ⟨k0, k1, k2, k3, k4⟩ := (hSd.out _).1 hSw
          go_simp
        try change wpAnyH _ _ _ _ _ _ _ (Act.put _ (some 130) _) _
        try simp only [Act.put, List.setIfInBounds_toArray, List.set_cons_zero, List.set_cons_succ]
        refine wpAnyH_take (i := 50) (v := (.string ⟨a.toArray⟩)) rfl (by kernel_rfl) (by kernel_rfl) (by kernel_rfl) (fun _ _ _ h => absurd h.1 (by simp)) (Or.inl ⟨by kernel_rfl, ?_⟩) hS22 ?_
        · intro W' hSw
          obtain ⟨k0, k1, k2, k3, k4⟩ := (hSd.out _).1 hSw
          go_simp
        try change wpAnyH _ _ _ _ _ _ _ (Act.put _ (some 131) _) _
        try simp only [Act.put, List.setIfInBounds_toArray, List.set_cons_zero, List.set_cons_succ]
        refine wpAnyH_take (i := 51) (v := (.pointer (some ⟨bx, 4, none⟩))) rfl (by kernel_rfl) (by kernel_rfl) (by kernel_rfl) (fun _ _ _ h => absurd h.1 (by simp)) (Or.inl ⟨by kernel_rfl, ?_⟩) hS22 ?_
        · intro W' hSw
          obtain ⟨k0, k1, k2, k3, k4⟩ := (hSd.out _).1 hSw
          go_simp
        try change wpAnyH _ _ _ _ _ _ _ (Act.put _ (some 132) _) _
        try simp only [Act.put, List.setIfInBounds_toArray, List.set_cons_zero, List.set_cons_succ]
        refine wpAnyH_take (i := 52) (v := (.string ⟨b.toArray⟩)) rfl (by kernel_rfl) (by kernel_rfl) (by kernel_rfl) (fun _ _ _ h => absurd h.1 (by simp)) (Or.inl ⟨by kernel_rfl, ?_⟩) hS22 ?_
        · intro W' hSw
          obtain ⟨k0, k1, k2, k3, k4⟩ := (hSd.out _).1 hSw
          go_simp
        try change wpAnyH _ _ _ _ _ _ _ (Act.put _ (some 133) _) _
        try simp only [Act.put, List.setIfInBounds_toArray, List.set_cons_zero, List.set_cons_succ]
        refine wpAnyH_take (i := 54) (v := (.slice A n cap)) rfl (by kernel_rfl) (by kernel_rfl) (by kernel_rfl) (fun _ _ _ h => absurd h.1 (by simp)) (Or.inl ⟨by kernel_rfl, ?_⟩) hS22 ?_
        · intro W' hSw
          obtain ⟨k0, k1, k2, k3, k4⟩ := (hSd.out _).1 hSw
          go_simp
        try change wpAnyH _ _ _ _ _ _ _ (Act.put _ (some 135) _) _
        try simp only [Act.put, List.setIfInBounds_toArray, List.set_cons_zero, List.set_cons_succ]
        refine wpAnyH_take (i := 55) (v := (.pointer (some ⟨bx, 4, none⟩))) rfl (by kernel_rfl) (by kernel_rfl) (by kernel_rfl) (fun _ _ _ h => absurd h.1 (by simp)) (Or.inl ⟨by kernel_rfl, ?_⟩) hS22 ?_
        · intro W' hSw
          obtain ⟨k0, k1, k2, k3, k4⟩ := (hSd.out _).1 hSw
          go_simp
        try change wpAnyH _ _ _ _ _ _ _ (Act.put _ (some 136) _) _
        try simp only [Act.put, List.setIfInBounds_toArray, List.set_cons_zero, List.set_cons_succ]
        refine wpAnyH_take (i := 56) (v := (.string ⟨b.toArray⟩)) rfl (by kernel_rfl) (by kernel_rfl) (by kernel_rfl) (fun _ _ _ h => absurd h.1 (by simp)) (Or.inl ⟨by kernel_rfl, ?_⟩) hS22 ?_
        · intro W' hSw
          obtain ⟨k0, k1, k2, k3, k4⟩ := (hSd.out _).1 hSw
          go_simp
        try change wpAnyH _ _ _ _ _ _ _ (Act.put _ (some 137) _) _
        try simp only [Act.put, List.setIfInBounds_toArray, List.set_cons_zero, List.set_cons_succ]
        refine wpAnyH_take (i := 57) (v := (.pointer (some ⟨bx, 3, none⟩))) rfl (by kernel_rfl) (by kernel_rfl) (by kernel_rfl) (fun _ _ _ h => absurd h.1 (by simp)) (Or.inl ⟨by kernel_rfl, ?_⟩) hS22 ?_
        · intro W' hSw
          obtain ⟨k0, k1, k2, k3, k4⟩ := (hSd.out _).1 hSw
          go_simp
        try change wpAnyH _ _ _ _ _ _ _ (Act.put _ (some 138) _) _
        try simp only [Act.put, List.setIfInBounds_toArray, List.set_cons_zero, List.set_cons_succ]
        refine wpAnyH_take (i := 58) (v := (.string ⟨a.toArray⟩)) rfl (by kernel_rfl) (by kernel_rfl) (by kernel_rfl) (fun _ _ _ h => absurd h.1 (by simp)) (Or.inl ⟨by kernel_rfl, ?_⟩) hS22 ?_
        · intro W' hSw
          obtain ⟨k0, k1, k2, k3, k4⟩ := (hSd.out _).1 hSw
          go_simp
        try change wpAnyH _ _ _ _ _ _ _ (Act.put _ (some 139) _) _
        try simp only [Act.put, List.setIfInBounds_toArray, List.set_cons_zero, List.set_cons_succ]
        refine wpAnyH_ready (rs := [53]) (by kernel_rfl) (by simp) ?_
        refine AllReadyH.cons rfl (fun K hK => ?_) AllReadyH.nil
        go_simp
        refine (KA.out _ B22.out).mono ?_
        rintro e w23 ⟨rfl, b23⟩
        have T23 := Lib.hid (T22.out.trans (b23.mono T22.out.size))
        have B23 := Lib.hid (B22.out.trans (b23.mono B22.out.size))
        have hS23 : S w23 := keepS.out _ T23.out
        refine hK.out _ _ hS23 (fun _ => ?_)
        clear hK hS22 T22 B22 b23 KA
        try simp only [Act.put, List.setIfInBounds_toArray, List.set_cons_zero, List.set_cons_succ]
        refine wpAnyH_ready (rs := [59]) (by kernel_rfl) (by simp) ?_
        refine AllReadyH.cons rfl (fun K hK => ?_) AllReadyH.nil
        go_simp
        refine (KAr.out _ B23.out).mono ?_
        rintro e w24 ⟨rfl, b24⟩
        have T24 := Lib.hid (T23.out.trans (b24.mono T23.out.size))
        have B24 := Lib.hid (B23.out.trans (b24.mono B23.out.size))
        have hS24 : S w24 := keepS.out _ T24.out
        refine hK.out _ _ hS24 (fun _ => ?_)
        clear hK hS23 T23 B23 b24 KAr
        try simp only [Act.put, List.setIfInBounds_toArray, List.set_cons_zero, List.set_cons_succ]
        refine wpAnyH_take (i := 60) (v := (.bool true)) rfl (by kernel_rfl) (by kernel_rfl) (by kernel_rfl) (fun _ _ _ h => absurd h.1 (by simp)) (Or.inl ⟨by kernel_rfl, ?_⟩) hS24 ?_
        · intro W' hSw
          obtain ⟨k0, k1, k2, k3, k4⟩ := (hSd.out _).1 hSw
          go_simp
        try change wpAnyH _ _ _ _ _ _ _ (Act.put _ (some 141) _) _
        try simp only [Act.put, List.setIfInBounds_toArray, List.set_cons_zero, List.set_cons_succ]
        refine wpAnyH_take (i := 61) (v := (.bool true)) rfl (by kernel_rfl) (by kernel_rfl) (by kernel_rfl) (fun _ _ _ h => absurd h.1 (by simp)) (Or.inl ⟨by kernel_rfl, ?_⟩) hS24 ?_
        · intro W' hSw
          obtain ⟨k0, k1, k2, k3, k4⟩ := (hSd.out _).1 hSw
          go_simp
        try change wpAnyH _ _ _ _ _ _ _ (Act.put _ (some 142) _) _
        try simp only [Act.put, List.setIfInBounds_toArray, List.set_cons_zero, List.set_cons_succ]
        refine wpAnyH_take (i := 62) (v := (.bool true)) rfl (by kernel_rfl) (by kernel_rfl) (by kernel_rfl) (fun _ _ _ h => absurd h.1 (by simp)) (Or.inl ⟨by kernel_rfl, ?_⟩) hS24 ?_
        · intro W' hSw
          obtain ⟨k0, k1, k2, k3, k4⟩ := (hSd.out _).1 hSw
          go_simp
        try change wpAnyH _ _ _ _ _ _ _ (Act.put _ (some 4) _) _
        try simp only [Act.put, List.setIfInBounds_toArray, List.set_cons_zero, List.set_cons_succ]
        refine wpAnyH_done (by kernel_rfl) ?_ _
        refine ⟨rfl, ?_⟩
        go_wp2_with fail
        go_ret
        exact ⟨rfl, B24.out⟩
set_option maxRecDepth 100000 in
theorem cRe : Tryz.prog.cellsOf 41 = 5 := by kernel_rfl
theorem cEs : Tryz.prog.cellsOf 29 = 1 := by kernel_rfl
theorem uRe : Tryz.prog.underlying 41 = some (.struct (Tryz.prog.fieldsOf 41)) := by kernel_rfl
theorem fRe : (Tryz.prog.fieldsOf 41).toList.map (fun f => (f.type, f.offset)) = [(29, 0), (29, 1), (26, 2), (9, 3), (9, 4)] := by kernel_rfl

set_option maxRecDepth 100000 in
theorem reached_of {H : Type} {enc : TypeId × Value → H} {W : World} {base : Nat} (v : Value) (d : DataW H) (p : List MemPlace) (k : DataW.Trod enc Tryz.prog W 0 (fun _ => true) true 41 v d p) (o : Value.okWide Tryz.prog W .any base 41 v) (hw : ∀ m ∈ d.weights Tryz.prog 41, m ≤ reachBytes) :
    ∃ (A1 : Option Addr) (c1 : Nat) (e1 : List Ed) (A2 : Option Addr) (c2 : Nat) (e2 : List Ed) (A3 : Option Addr) (c3 : Nat) (fr : List T) (a b : T), v = .agg #[.slice A1 e1.length c1, .slice A2 e2.length c2, .slice A3 fr.length c3, encStr a, encStr b] ∧ EdM W A1 e1 ∧ EdM W A2 e2 ∧ Rd W A3 (fr.map encStr) ∧ e1.length ≤ maxLen ∧ e2.length ≤ maxLen ∧ fr.length ≤ maxLen := by
  obtain ⟨cs, rfl, hcs⟩ := okWide_struct uRe o
  have h5 : cs.size = 5 := hcs.trans cRe
  obtain ⟨l⟩ := cs
  match l, h5 with
  | [c0, c1, c2, c3, c4], _ =>
    obtain ⟨fuel, hk⟩ := k
    obtain ⟨ys, m, _, hx, _, hl2, hf⟩ := DataW.trod_struct uRe hk
    have hd : d = .agg (ys.map (·.1)) := congrArg Prod.fst hx
    rw [hd] at hw
    obtain ⟨y0, h0, w0⟩ := fld fRe hl2 hf uRe hw 0 29 0 rfl
    obtain ⟨y1, h1, w1⟩ := fld fRe hl2 hf uRe hw 1 29 1 rfl
    obtain ⟨y2, h2, w2⟩ := fld fRe hl2 hf uRe hw 2 26 2 rfl
    obtain ⟨y3, h3, w3⟩ := fld fRe hl2 hf uRe hw 3 9 3 rfl
    obtain ⟨y4, h4, w4⟩ := fld fRe hl2 hf uRe hw 4 9 4 rfl
    rw [cEs] at h0 h1
    rw [cSs] at h2
    rw [cStr] at h3 h4
    have i0 : Inhabited Ed := ⟨([], [])⟩
    have i1 : Inhabited T := ⟨[]⟩
    obtain ⟨A0, cap0, l0, rfl, t0, q0, le0, m0, _⟩ := wide_of (u := c0) (B := reachBytes) edRow (fun _ => True) Tryz.underlying29 cEd (by decide) (fun _ => rfl) (fun n cs y => ed_el n cs y) h0 w0
    obtain ⟨A1, cap1, l1, rfl, t1, q1, le1, m1, _⟩ := wide_of (u := c1) (B := reachBytes) edRow (fun _ => True) Tryz.underlying29 cEd (by decide) (fun _ => rfl) (fun n cs y => ed_el n cs y) h1 w1
    obtain ⟨A2, cap2, l2, rfl, t2, q2, le2, m2, _⟩ := wide_of (u := c2) (B := reachBytes) (fun s : T => [encStr s]) _ Tryz.underlying26 cStr (by decide) (fun _ => rfl) (fun n cs y => txt_el n cs y) h2 w2
    obtain ⟨a, rfl, _⟩ := str_el (u := c3) h3 w3
    obtain ⟨b, rfl, _⟩ := str_el (u := c4) h4 w4
    exact ⟨A0, cap0, l0, A1, cap1, l1, A2, cap2, l2, a, b, rfl, t0, t1, tbl_rd t2, Nat.le_trans le0 m0, Nat.le_trans le1 m1, Nat.le_trans le2 m2⟩

set_option maxRecDepth 100000 in
theorem pf_more (H : Type) (enc : TypeId × Value → H) (W : World) {base base2 : Nat} (v : Value) (d : DataW H) (p : List MemPlace) (k : DataW.Trod enc Tryz.prog W 0 (fun _ => true) true 22 v d p) (o : Value.okWide Tryz.prog W .any base 22 v) (hw : ∀ n ∈ d.weights Tryz.prog 22, n ≤ reachBytes)
    (v2 : Value) (d2 : DataW H) (p2 : List MemPlace) (k2 : DataW.Trod enc Tryz.prog W 0 (fun _ => true) true 41 v2 d2 p2) (o2 : Value.okWide Tryz.prog W .any base2 41 v2) (hw2 : ∀ n ∈ d2.weights Tryz.prog 41, n ≤ reachBytes) (htab : Tab W) :
    Calls Tryz.prog 5 #[v, v2] W (BP true W) := by
  obtain ⟨A, c, l, rfl, hf, hb, hc⟩ := facts_of v d p k o hw
  obtain ⟨A1, c1, e1, A2, c2, e2, A3, c3, fr, a, b, rfl, h1, h2, h3, m1, m2, m3⟩ := reached_of v2 d2 p2 k2 o2 hw2
  exact law_more_of W A c l hf hb hc A1 c1 e1 A2 c2 e2 A3 c3 fr a b h1 h2 h3 m1 m2 m3 htab
end Go.Proofs.YtohdcmmkbblhkaaGreatDoor.qy
