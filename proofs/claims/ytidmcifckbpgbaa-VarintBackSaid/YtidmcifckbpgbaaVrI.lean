/-
  varint: what is put is taken again: the walk.
-/
import Derived.Test.YtidmcifckbpgbaaVrH
import Derived.Deep.RegionHeld3
namespace Go.Proofs.Ytidmcifckbpgbaa.vr
open Go.RowKit Go.Proofs.Ytidmcifckbpgbaa.mem

/-- the bytes of what is put -/
def enc1 (p : PutT) : List UInt8 := if p.1 = true then nb p.2.2.size ++ p.2.2.data.toList else nb p.2.1.toNat
def good (p : PutT) : Prop := if p.1 = true then (p.2.2.size : Int) ≤ 200000 else 0 ≤ p.2.1 ∧ p.2.1 ≤ 268435456
def encs (l : List PutT) : List UInt8 := l.flatMap enc1

theorem put1_ok (st : List UInt8 × Int) (p : PutT) (h : (put1 st p).2 = 0) : st.2 = 0 ∧ (put1 st p).1 = st.1 ++ enc1 p ∧ good p := by
  unfold put1 enc1 good at *
  split at h
  · rename_i hp
    rw [if_pos hp, if_pos hp, if_pos hp]
    unfold putT at h ⊢
    split at h
    · rename_i h1; exact absurd h h1
    · rename_i h1
      split at h
      · simp at h
      · rename_i h2
        rw [if_neg h1, if_neg h2]
        exact ⟨by simpa using h1, rfl, by omega⟩
  · rename_i hp
    rw [if_neg hp, if_neg hp, if_neg hp]
    unfold putN at h ⊢
    split at h
    · rename_i h1; exact absurd h h1
    · rename_i h1
      split at h
      · simp at h
      · rename_i h2
        rw [if_neg h1, if_neg h2]
        exact ⟨by simpa using h1, rfl, by omega⟩

theorem fold_ok : ∀ (l : List PutT) (st : List UInt8 × Int), (l.foldl put1 st).2 = 0 → st.2 = 0 ∧ (l.foldl put1 st).1 = st.1 ++ encs l ∧ ∀ p ∈ l, good p
  | [], st, h => ⟨h, by simp [encs], by simp⟩
  | p :: l, st, h => by
    obtain ⟨h1, h2, h3⟩ := fold_ok l (put1 st p) h
    obtain ⟨k1, k2, k3⟩ := put1_ok st p h1
    refine ⟨k1, ?_, fun q hq => ?_⟩
    · show (l.foldl put1 (put1 st p)).1 = _
      rw [h2, k2]; simp [encs]
    · rcases List.mem_cons.1 hq with rfl | hq
      · exact k3
      · exact h3 q hq

theorem all_ok (l : List PutT) (h : (putAll l).2 = 0) : putAll l = (encs l, 0) ∧ ∀ p ∈ l, good p := by
  obtain ⟨_, h2, h3⟩ := fold_ok l ([], 0) h
  refine ⟨?_, h3⟩
  have e : (putAll l).1 = encs l := by
    show (l.foldl put1 ([], 0)).1 = _
    rw [h2]; rfl
  rw [← e, ← h]

/-- where element k begins -/
def pos (l : List PutT) (k : Nat) : Nat := (encs (l.take k)).length

theorem encs_app (l m : List PutT) : encs (l ++ m) = encs l ++ encs m := by unfold encs; rw [List.flatMap_append]
theorem encs_cons (p : PutT) (l : List PutT) : encs (p :: l) = enc1 p ++ encs l := by unfold encs; rw [List.flatMap_cons]

theorem encs_split (l : List PutT) (k : Nat) (h : k < l.length) : (encs l).drop (pos l k) = enc1 l[k] ++ encs (l.drop (k + 1)) := by
  have e0 : l = l.take k ++ l[k] :: l.drop (k + 1) := by rw [← List.drop_eq_getElem_cons h, List.take_append_drop]
  have e : encs l = encs (l.take k) ++ (enc1 l[k] ++ encs (l.drop (k + 1))) := by
    rw [← encs_cons, ← encs_app, ← e0]
  rw [e]
  unfold pos
  rw [List.drop_left]

theorem pos_succ (l : List PutT) (k : Nat) (h : k < l.length) : pos l (k + 1) = pos l k + (enc1 l[k]).length := by
  unfold pos
  rw [List.take_succ_eq_append_getElem h, encs_app, encs_cons, List.length_append, List.length_append]
  rfl

theorem pos_le (l : List PutT) (k : Nat) : pos l k ≤ (encs l).length := by
  unfold pos
  have : encs l = encs (l.take k) ++ encs (l.drop k) := by rw [← encs_app, List.take_append_drop]
  rw [this, List.length_append]
  omega

theorem pos_all (l : List PutT) : pos l l.length = (encs l).length := by unfold pos; rw [List.take_length]

theorem back_number (l : List PutT) (k : Nat) (h : k < l.length) (n : Int) (s : ByteArray) (hk : l[k] = (false, n, s)) (hg : good l[k]) :
    nV (bs (encs l)) (pos l k) 0 = n ∧ nP (bs (encs l)) (pos l k) 0 = pos l (k + 1) ∧ nE (bs (encs l)) (pos l k) 0 = 0 := by
  have hd : (bs (encs l)).data.toList.drop (pos l k) = enc1 l[k] ++ encs (l.drop (k + 1)) := encs_split l k h
  have hp := pos_succ l k h
  rw [hk] at hd hp hg
  have hg : 0 ≤ n ∧ n ≤ 268435456 := hg
  have he : enc1 (false, n, s) = nb n.toNat := rfl
  rw [he] at hd hp
  have hc : ct (bs (encs l)) (pos l k) = (n.toNat, (nb n.toNat).length, 0) := by
    unfold ct
    rw [hd]
    exact cnt_nb n.toNat _ (by omega)
  refine ⟨?_, ?_, ?_⟩
  · have : nV (bs (encs l)) (pos l k) 0 = (ct (bs (encs l)) (pos l k)).1 := if_neg (by simp)
    rw [this, hc]
    show ((n.toNat : Nat) : Int) = n
    omega
  · have : nP (bs (encs l)) (pos l k) 0 = pos l k + (ct (bs (encs l)) (pos l k)).2.1 := if_neg (by simp)
    rw [this, hc, hp]
  · have : nE (bs (encs l)) (pos l k) 0 = (((ct (bs (encs l)) (pos l k)).2.2 : Nat) : Int) := if_neg (by simp)
    rw [this, hc]
    rfl

theorem back_text (l : List PutT) (k : Nat) (h : k < l.length) (n : Int) (s : ByteArray) (hk : l[k] = (true, n, s)) (hg : good l[k]) :
    tx (bs (encs l)) (pos l k) 0 = (s, pos l (k + 1), 0) := by
  have hd : (bs (encs l)).data.toList.drop (pos l k) = enc1 l[k] ++ encs (l.drop (k + 1)) := encs_split l k h
  have hp := pos_succ l k h
  have hle := pos_le l (k + 1)
  rw [hk] at hd hp hg
  have hg : (s.size : Int) ≤ 200000 := hg
  have he : enc1 (true, n, s) = nb s.size ++ s.data.toList := rfl
  rw [he] at hd hp
  rw [List.append_assoc] at hd
  rw [List.length_append, list_size] at hp
  have hc : ct (bs (encs l)) (pos l k) = (s.size, (nb s.size).length, 0) := by
    unfold ct
    rw [hd]
    exact cnt_nb s.size _ (by omega)
  have hsz : (bs (encs l)).size = (encs l).length := bs_size _
  have hex : (bs (encs l)).extract (pos l k + (nb s.size).length) (pos l k + (nb s.size).length + s.size) = s := by
    have e : ((bs (encs l)).extract (pos l k + (nb s.size).length) (pos l k + (nb s.size).length + s.size)).data.toList = s.data.toList := by
      rw [extract_list, ← List.drop_drop, hd, List.drop_left]
      rw [show pos l k + (nb s.size).length + s.size - (pos l k + (nb s.size).length) = s.data.toList.length from by rw [list_size]; omega]
      exact List.take_left
    rw [← bs_of ((bs (encs l)).extract _ _), e, bs_of]
  unfold tx
  rw [hc, if_neg (by simp), if_neg (by simp), if_neg (by rw [hsz]; show ¬ (encs l).length - (pos l k + (nb s.size).length) < s.size; omega)]
  show (_, _, _) = _
  rw [hex, hp]
  simp only [Prod.mk.injEq, true_and, and_true]
  omega

set_option maxRecDepth 100000 in
set_option maxHeartbeats 16000000 in
theorem law_back (w : World) (A : Option Addr) (cap : Nat) (l : List PutT) (h : Puts w A l) (hm : l.length ≤ 9223372036854775807) :
    Calls Try.prog 7 #[.slice A l.length cap] w (WorksPost w) := by
  have Hh := Lib.hid h
  have HW := Lib.hid (works_any w)
  have KL := Lib.hid (fun w' (hb : Below w.heap.size w w') => light_any w' A cap l (h.below hb) hm)
  have KW := Lib.hid (fun w' (hb : Below w.heap.size w w') (hl : l.length ≤ 300) => write_any w' A cap l (h.below hb) hl)
  unfold WorksPost at HW
  unfold LPost at KL
  unfold WrPost at KW
  clear h
  go_enter Try.func7, Try.ntmps7
  go_wp2_with fail
  refine HW.out.mono ?_
  rintro e w1 ⟨rfl, b1⟩
  have B1 := Lib.hid b1
  clear b1 HW
  go_wp2_with fail
  refine (KL.out _ B1.out).mono ?_
  rintro e w2 ⟨b, rfl, rfl, hb3⟩
  clear KL
  cases b with
  | false =>
    clear hb3
    go_wp2_with fail
    go_ret
    exact ⟨rfl, B1.out⟩
  | true =>
    have hl3 : l.length ≤ 300 := hb3 rfl
    clear hb3
    have KW2 := Lib.hid (KW.out w1 B1.out hl3)
    clear KW
    by_cases hz : (putAll l).2 = 0
    · obtain ⟨hall, hgood⟩ := all_ok l hz
      have hdn : doneS (encs l, (0 : Int)) = encs l := if_neg (by simp)
      rw [hall, hdn] at KW2
      have HG := Lib.hid hgood
      have hlen := putAll_len l
      rw [hall] at hlen
      have hlen : (encs l).length ≤ l.length * 200005 := hlen
      have hbl : (bs (encs l)).size = (encs l).length := bs_size _
      have Hbl := Lib.hid hbl
      have hsl : Hid ((bs (encs l)).size ≤ maxLen) := Lib.hid (by rw [hbl]; unfold maxLen; omega)
      have K0 := Lib.hid (fun w' (h : Below w.heap.size w w') => one_new (bs (encs l)) w w' h)
      clear hz hall hdn hgood hbl hlen
      go_wp2_with fail
      refine KW2.out.mono ?_
      rintro e w3 ⟨rfl, b3⟩
      have B3 := Lib.hid (B1.out.trans (b3.mono B1.out.size))
      clear b3 KW2
      go_wp2_with fail
      refine (K0.out _ B3.out).mono ?_
      rintro e w4 ⟨rfl, h4⟩
      have H4 : Hid (One w w4 w3.heap.size (bs (encs l)) (pos l 0) 0) := Lib.hid h4
      clear h4 K0
      generalize w3.heap.size = a at *
      go_wp2_with fail
      go_loopw [6] (fun i wr => ∃ (k : Nat), k ≤ l.length ∧ i = .int .i64 k ∧ Hid (One w wr a (bs (encs l)) (pos l k) 0)) (fun i _ => l.length - (intOf i).toNat)
      case atStart => exact ⟨0, by omega, rfl, H4⟩
      case round =>
        obtain ⟨k, hk, rfl, ho⟩ := hrel
        rename_i wr _
        clear H4
        by_cases hkl : k < l.length
        · have e1 : decide ((k : Int) < (l.length : Int)) = true := decide_eq_true (by omega)
          obtain ⟨b, off, rfl, hlt, hcell⟩ := Hh.out (by omega)
          obtain ⟨c0, c1, c2⟩ := hcell k hkl
          have hg := HG.out l[k] (List.getElem_mem hkl)
          have hpl : pos l k ≤ (bs (encs l)).size := by rw [Hbl.out]; exact pos_le l k
          have Hlt := Lib.hid hlt
          have hkeep : Hid (∀ w', Below w.heap.size w w' → w'.cell? ⟨b, off + k * 3, none⟩ = some (.bool l[k].1) ∧ w'.cell? ⟨b, off + k * 3 + 1, none⟩ = some (.int .i64 l[k].2.1) ∧ w'.cell? ⟨b, off + k * 3 + 2, none⟩ = some (.string l[k].2.2)) := Lib.hid (fun w' hb => ⟨(hb.cell (p := ⟨b, off + k * 3, none⟩) Hlt.out).trans c0, (hb.cell (p := ⟨b, off + k * 3 + 1, none⟩) Hlt.out).trans c1, (hb.cell (p := ⟨b, off + k * 3 + 2, none⟩) Hlt.out).trans c2⟩)
          obtain ⟨⟨pt, pn, ps⟩, hp⟩ : ∃ p, l[k] = p := ⟨_, rfl⟩
          cases pt with
          | true =>
            have htx := back_text l k hkl pn ps hp hg
            have KT := Lib.hid (fun w' (h : One w w' a (bs (encs l)) (pos l k) 0) => one_text h hsl.out hpl)
            rw [htx] at KT
            rw [hp] at hkeep
            have KT : Hid (∀ w', One w w' a (bs (encs l)) (pos l k) 0 → Calls Try.prog 27 #[.pointer (some ⟨a, 0, none⟩)] w' fun e w'' => e = .returned (.string ps) ∧ One w w'' a (bs (encs l)) (pos l (k + 1)) 0) := KT
            have d1 : (ps.toList != ps.toList) = false := by simp
            have hS0 := hkeep.out wr.drew ho.out.on.drew
            have H0 : Hid (One w wr.drew a (bs (encs l)) (pos l k) 0) := Lib.hid ⟨ho.out.x.drew, ho.out.on.drew, ho.out.ba⟩
            clear c0 c1 c2 hcell hg hpl htx hp hlt ho
            go_wp2_with fail
            refine wp_region_held_drew (S := fun w' => w'.cell? ⟨b, off + k * 3, none⟩ = some (.bool true) ∧ w'.cell? ⟨b, off + k * 3 + 1, none⟩ = some (.int .i64 pn) ∧ w'.cell? ⟨b, off + k * 3 + 2, none⟩ = some (.string ps)) (by kernel_rfl) hS0 (fun _ => ?_)
            refine wpAnyH_take (i := 0) (v := (.slice (some ⟨b, off, none⟩) l.length cap)) rfl (by kernel_rfl) (by kernel_rfl) (by kernel_rfl) (fun _ _ _ h => h) (Or.inl ⟨by kernel_rfl, ?_⟩) hS0 ?_
            · intro W' hSw
              obtain ⟨q0, q1, q2⟩ := hSw
              go_simp
            change wpAnyH _ _ _ _ _ _ _ (Act.put _ (some 31) _) _
            try simp only [Act.put, List.setIfInBounds_toArray, List.set_cons_zero, List.set_cons_succ]
            refine wpAnyH_take (i := 1) (v := (.int .i64 (k : Int))) rfl (by kernel_rfl) (by kernel_rfl) (by kernel_rfl) (fun _ _ _ h => h) (Or.inl ⟨by kernel_rfl, ?_⟩) hS0 ?_
            · intro W' hSw
              obtain ⟨q0, q1, q2⟩ := hSw
              go_simp
            change wpAnyH _ _ _ _ _ _ _ (Act.put _ (some 32) _) _
            try simp only [Act.put, List.setIfInBounds_toArray, List.set_cons_zero, List.set_cons_succ]
            refine wpAnyH_take (i := 2) (v := (.pointer (some ⟨b, off + k * 3, none⟩))) rfl (by kernel_rfl) (by kernel_rfl) (by kernel_rfl) (fun _ _ _ h => h) (Or.inl ⟨by kernel_rfl, ?_⟩) hS0 ?_
            · intro W' hSw
              obtain ⟨q0, q1, q2⟩ := hSw
              go_simp
            change wpAnyH _ _ _ _ _ _ _ (Act.put _ (some 33) _) _
            try simp only [Act.put, List.setIfInBounds_toArray, List.set_cons_zero, List.set_cons_succ]
            refine wpAnyH_take (i := 3) (v := (.pointer (some ⟨b, off + k * 3, none⟩))) rfl (by kernel_rfl) (by kernel_rfl) (by kernel_rfl) (fun _ _ _ h => h) (Or.inl ⟨by kernel_rfl, ?_⟩) hS0 ?_
            · intro W' hSw
              obtain ⟨q0, q1, q2⟩ := hSw
              go_simp
            change wpAnyH _ _ _ _ _ _ _ (Act.put _ (some 34) _) _
            try simp only [Act.put, List.setIfInBounds_toArray, List.set_cons_zero, List.set_cons_succ]
            refine wpAnyH_take (i := 4) (v := (.bool true)) rfl (by kernel_rfl) (by kernel_rfl) (by kernel_rfl) (fun _ _ _ h => h) (Or.inl ⟨by kernel_rfl, ?_⟩) hS0 ?_
            · intro W' hSw
              obtain ⟨q0, q1, q2⟩ := hSw
              go_simp
            change wpAnyH _ _ _ _ _ _ _ (Act.put _ (some 35) _) _
            try simp only [Act.put, List.setIfInBounds_toArray, List.set_cons_zero, List.set_cons_succ]
            refine wpAnyH_take (i := 5) (v := (.bool true)) rfl (by kernel_rfl) (by kernel_rfl) (by kernel_rfl) (fun _ _ _ h => h) (Or.inl ⟨by kernel_rfl, ?_⟩) hS0 ?_
            · intro W' hSw
              obtain ⟨q0, q1, q2⟩ := hSw
              go_simp
            change wpAnyH _ _ _ _ _ _ _ (Act.put _ (some 36) _) _
            try simp only [Act.put, List.setIfInBounds_toArray, List.set_cons_zero, List.set_cons_succ]
            refine wpAnyH_take (i := 6) (v := (.pointer (some ⟨a, 0, none⟩))) rfl (by kernel_rfl) (by kernel_rfl) (by kernel_rfl) (fun _ _ _ h => h) (Or.inl ⟨by kernel_rfl, ?_⟩) hS0 ?_
            · intro W' hSw
              obtain ⟨q0, q1, q2⟩ := hSw
              go_simp
            change wpAnyH _ _ _ _ _ _ _ (Act.put _ (some 37) _) _
            try simp only [Act.put, List.setIfInBounds_toArray, List.set_cons_zero, List.set_cons_succ]
            refine wpAnyH_take (i := 8) (v := (.slice (some ⟨b, off, none⟩) l.length cap)) rfl (by kernel_rfl) (by kernel_rfl) (by kernel_rfl) (fun _ _ _ h => h) (Or.inl ⟨by kernel_rfl, ?_⟩) hS0 ?_
            · intro W' hSw
              obtain ⟨q0, q1, q2⟩ := hSw
              go_simp
            change wpAnyH _ _ _ _ _ _ _ (Act.put _ (some 39) _) _
            try simp only [Act.put, List.setIfInBounds_toArray, List.set_cons_zero, List.set_cons_succ]
            refine wpAnyH_take (i := 9) (v := (.int .i64 (k : Int))) rfl (by kernel_rfl) (by kernel_rfl) (by kernel_rfl) (fun _ _ _ h => h) (Or.inl ⟨by kernel_rfl, ?_⟩) hS0 ?_
            · intro W' hSw
              obtain ⟨q0, q1, q2⟩ := hSw
              go_simp
            change wpAnyH _ _ _ _ _ _ _ (Act.put _ (some 40) _) _
            try simp only [Act.put, List.setIfInBounds_toArray, List.set_cons_zero, List.set_cons_succ]
            refine wpAnyH_take (i := 10) (v := (.pointer (some ⟨b, off + k * 3, none⟩))) rfl (by kernel_rfl) (by kernel_rfl) (by kernel_rfl) (fun _ _ _ h => h) (Or.inl ⟨by kernel_rfl, ?_⟩) hS0 ?_
            · intro W' hSw
              obtain ⟨q0, q1, q2⟩ := hSw
              go_simp
            change wpAnyH _ _ _ _ _ _ _ (Act.put _ (some 41) _) _
            try simp only [Act.put, List.setIfInBounds_toArray, List.set_cons_zero, List.set_cons_succ]
            refine wpAnyH_take (i := 11) (v := (.pointer (some ⟨b, off + k * 3 + 2, none⟩))) rfl (by kernel_rfl) (by kernel_rfl) (by kernel_rfl) (fun _ _ _ h => h) (Or.inl ⟨by kernel_rfl, ?_⟩) hS0 ?_
            · intro W' hSw
              obtain ⟨q0, q1, q2⟩ := hSw
              go_simp
            change wpAnyH _ _ _ _ _ _ _ (Act.put _ (some 42) _) _
            try simp only [Act.put, List.setIfInBounds_toArray, List.set_cons_zero, List.set_cons_succ]
            refine wpAnyH_take (i := 12) (v := (.string ps)) rfl (by kernel_rfl) (by kernel_rfl) (by kernel_rfl) (fun _ _ _ h => h) (Or.inl ⟨by kernel_rfl, ?_⟩) hS0 ?_
            · intro W' hSw
              obtain ⟨q0, q1, q2⟩ := hSw
              go_simp
            change wpAnyH _ _ _ _ _ _ _ (Act.put _ (some 43) _) _
            try simp only [Act.put, List.setIfInBounds_toArray, List.set_cons_zero, List.set_cons_succ]
            refine wpAnyH_ready (rs := [7]) (by kernel_rfl) (by simp) ?_
            refine AllReadyH.cons rfl (fun K hK => ?_) AllReadyH.nil
            go_simp
            go_at_call 27
            refine (KT.out _ H0.out).mono ?_
            rintro e w5 ⟨rfl, h5⟩
            have H5 := Lib.hid h5
            have hS5 := hkeep.out _ h5.on
            clear h5 KT
            refine hK.out _ _ hS5 (fun _ => ?_)
            clear hK
            try simp only [Act.put, List.setIfInBounds_toArray, List.set_cons_zero, List.set_cons_succ]
            refine wpAnyH_take (i := 13) (v := (.bool false)) rfl (by kernel_rfl) (by kernel_rfl) (by kernel_rfl) (fun _ _ _ h => h) (Or.inl ⟨by kernel_rfl, ?_⟩) hS5 ?_
            · intro W' hSw
              obtain ⟨q0, q1, q2⟩ := hSw
              go_simp
            change wpAnyH _ _ _ _ _ _ _ (Act.put _ (some 44) _) _
            try simp only [Act.put, List.setIfInBounds_toArray, List.set_cons_zero, List.set_cons_succ]
            refine wpAnyH_take (i := 14) (v := (.bool false)) rfl (by kernel_rfl) (by kernel_rfl) (by kernel_rfl) (fun _ _ _ h => h) (Or.inl ⟨by kernel_rfl, ?_⟩) hS5 ?_
            · intro W' hSw
              obtain ⟨q0, q1, q2⟩ := hSw
              go_simp
            change wpAnyH _ _ _ _ _ _ _ (Act.put _ (some 45) _) _
            try simp only [Act.put, List.setIfInBounds_toArray, List.set_cons_zero, List.set_cons_succ]
            refine wpAnyH_take (i := 15) (v := (.bool false)) rfl (by kernel_rfl) (by kernel_rfl) (by kernel_rfl) (fun _ _ _ h => h) (Or.inl ⟨by kernel_rfl, ?_⟩) hS5 ?_
            · intro W' hSw
              obtain ⟨q0, q1, q2⟩ := hSw
              go_simp
            change wpAnyH _ _ _ _ _ _ _ (Act.put _ (some 46) _) _
            try simp only [Act.put, List.setIfInBounds_toArray, List.set_cons_zero, List.set_cons_succ]
            refine wpAnyH_take (i := 16) (v := (.slice (some ⟨b, off, none⟩) l.length cap)) rfl (by kernel_rfl) (by kernel_rfl) (by kernel_rfl) (fun _ _ _ h => h) (Or.inl ⟨by kernel_rfl, ?_⟩) hS5 ?_
            · intro W' hSw
              obtain ⟨q0, q1, q2⟩ := hSw
              go_simp
            change wpAnyH _ _ _ _ _ _ _ (Act.put _ (some 47) _) _
            try simp only [Act.put, List.setIfInBounds_toArray, List.set_cons_zero, List.set_cons_succ]
            refine wpAnyH_take (i := 17) (v := (.int .i64 (k : Int))) rfl (by kernel_rfl) (by kernel_rfl) (by kernel_rfl) (fun _ _ _ h => h) (Or.inl ⟨by kernel_rfl, ?_⟩) hS5 ?_
            · intro W' hSw
              obtain ⟨q0, q1, q2⟩ := hSw
              go_simp
            change wpAnyH _ _ _ _ _ _ _ (Act.put _ (some 48) _) _
            try simp only [Act.put, List.setIfInBounds_toArray, List.set_cons_zero, List.set_cons_succ]
            refine wpAnyH_take (i := 18) (v := (.pointer (some ⟨b, off + k * 3, none⟩))) rfl (by kernel_rfl) (by kernel_rfl) (by kernel_rfl) (fun _ _ _ h => h) (Or.inl ⟨by kernel_rfl, ?_⟩) hS5 ?_
            · intro W' hSw
              obtain ⟨q0, q1, q2⟩ := hSw
              go_simp
            change wpAnyH _ _ _ _ _ _ _ (Act.put _ (some 49) _) _
            try simp only [Act.put, List.setIfInBounds_toArray, List.set_cons_zero, List.set_cons_succ]
            refine wpAnyH_take (i := 19) (v := (.pointer (some ⟨b, off + k * 3, none⟩))) rfl (by kernel_rfl) (by kernel_rfl) (by kernel_rfl) (fun _ _ _ h => h) (Or.inl ⟨by kernel_rfl, ?_⟩) hS5 ?_
            · intro W' hSw
              obtain ⟨q0, q1, q2⟩ := hSw
              go_simp
            change wpAnyH _ _ _ _ _ _ _ (Act.put _ (some 50) _) _
            try simp only [Act.put, List.setIfInBounds_toArray, List.set_cons_zero, List.set_cons_succ]
            refine wpAnyH_take (i := 20) (v := (.bool true)) rfl (by kernel_rfl) (by kernel_rfl) (by kernel_rfl) (fun _ _ _ h => h) (Or.inl ⟨by kernel_rfl, ?_⟩) hS5 ?_
            · intro W' hSw
              obtain ⟨q0, q1, q2⟩ := hSw
              go_simp
            change wpAnyH _ _ _ _ _ _ _ (Act.put _ (some 51) _) _
            try simp only [Act.put, List.setIfInBounds_toArray, List.set_cons_zero, List.set_cons_succ]
            refine wpAnyH_take (i := 21) (v := (.bool false)) rfl (by kernel_rfl) (by kernel_rfl) (by kernel_rfl) (fun _ _ _ h => h) (Or.inl ⟨by kernel_rfl, ?_⟩) hS5 ?_
            · intro W' hSw
              obtain ⟨q0, q1, q2⟩ := hSw
              go_simp
            change wpAnyH _ _ _ _ _ _ _ (Act.put _ (some 52) _) _
            try simp only [Act.put, List.setIfInBounds_toArray, List.set_cons_zero, List.set_cons_succ]
            refine wpAnyH_take (i := 22) (v := (.bool false)) rfl (by kernel_rfl) (by kernel_rfl) (by kernel_rfl) (fun _ _ _ h => h) (Or.inl ⟨by kernel_rfl, ?_⟩) hS5 ?_
            · intro W' hSw
              obtain ⟨q0, q1, q2⟩ := hSw
              go_simp
            change wpAnyH _ _ _ _ _ _ _ (Act.put _ (some 53) _) _
            try simp only [Act.put, List.setIfInBounds_toArray, List.set_cons_zero, List.set_cons_succ]
            refine wpAnyH_take (i := 23) (v := undef) rfl (by kernel_rfl) (by kernel_rfl) (by kernel_rfl) (fun _ _ _ h => h) (Or.inr ⟨by kernel_rfl, rfl⟩) hS5 ?_
            change wpAnyH _ _ _ _ _ _ _ (Act.put _ (some 54) _) _
            try simp only [Act.put, List.setIfInBounds_toArray, List.set_cons_zero, List.set_cons_succ]
            refine wpAnyH_take (i := 24) (v := undef) rfl (by kernel_rfl) (by kernel_rfl) (by kernel_rfl) (fun _ _ _ h => h) (Or.inr ⟨by kernel_rfl, rfl⟩) hS5 ?_
            change wpAnyH _ _ _ _ _ _ _ (Act.put _ (some 55) _) _
            try simp only [Act.put, List.setIfInBounds_toArray, List.set_cons_zero, List.set_cons_succ]
            refine wpAnyH_take (i := 25) (v := undef) rfl (by kernel_rfl) (by kernel_rfl) (by kernel_rfl) (fun _ _ _ h => h) (Or.inr ⟨by kernel_rfl, rfl⟩) hS5 ?_
            change wpAnyH _ _ _ _ _ _ _ (Act.put _ (some 56) _) _
            try simp only [Act.put, List.setIfInBounds_toArray, List.set_cons_zero, List.set_cons_succ]
            refine wpAnyH_take (i := 26) (v := undef) rfl (by kernel_rfl) (by kernel_rfl) (by kernel_rfl) (fun _ _ _ h => h) (Or.inr ⟨by kernel_rfl, rfl⟩) hS5 ?_
            change wpAnyH _ _ _ _ _ _ _ (Act.put _ (some 57) _) _
            try simp only [Act.put, List.setIfInBounds_toArray, List.set_cons_zero, List.set_cons_succ]
            refine wpAnyH_take (i := 27) (v := undef) rfl (by kernel_rfl) (by kernel_rfl) (by kernel_rfl) (fun _ _ _ h => h) (Or.inr ⟨by kernel_rfl, rfl⟩) hS5 ?_
            change wpAnyH _ _ _ _ _ _ _ (Act.put _ (some 58) _) _
            try simp only [Act.put, List.setIfInBounds_toArray, List.set_cons_zero, List.set_cons_succ]
            refine wpAnyH_take (i := 28) (v := undef) rfl (by kernel_rfl) (by kernel_rfl) (by kernel_rfl) (fun _ _ _ h => h) (Or.inr ⟨by kernel_rfl, rfl⟩) hS5 ?_
            change wpAnyH _ _ _ _ _ _ _ (Act.put _ (some 59) _) _
            try simp only [Act.put, List.setIfInBounds_toArray, List.set_cons_zero, List.set_cons_succ]
            refine wpAnyH_take (i := 29) (v := undef) rfl (by kernel_rfl) (by kernel_rfl) (by kernel_rfl) (fun _ _ _ h => h) (Or.inr ⟨by kernel_rfl, rfl⟩) hS5 ?_
            change wpAnyH _ _ _ _ _ _ _ (Act.put _ (some 60) _) _
            try simp only [Act.put, List.setIfInBounds_toArray, List.set_cons_zero, List.set_cons_succ]
            refine wpAnyH_take (i := 30) (v := undef) rfl (by kernel_rfl) (by kernel_rfl) (by kernel_rfl) (fun _ _ _ h => h) (Or.inr ⟨by kernel_rfl, rfl⟩) hS5 ?_
            change wpAnyH _ _ _ _ _ _ _ (Act.put _ (some 61) _) _
            try simp only [Act.put, List.setIfInBounds_toArray, List.set_cons_zero, List.set_cons_succ]
            refine wpAnyH_take (i := 31) (v := (.bool false)) rfl (by kernel_rfl) (by kernel_rfl) (by kernel_rfl) (fun _ _ _ h => h) (Or.inl ⟨by kernel_rfl, ?_⟩) hS5 ?_
            · intro W' hSw
              obtain ⟨q0, q1, q2⟩ := hSw
              go_simp
            change wpAnyH _ _ _ _ _ _ _ (Act.put _ (some 62) _) _
            try simp only [Act.put, List.setIfInBounds_toArray, List.set_cons_zero, List.set_cons_succ]
            refine wpAnyH_take (i := 32) (v := (.bool false)) rfl (by kernel_rfl) (by kernel_rfl) (by kernel_rfl) (fun _ _ _ h => h) (Or.inl ⟨by kernel_rfl, ?_⟩) hS5 ?_
            · intro W' hSw
              obtain ⟨q0, q1, q2⟩ := hSw
              go_simp
            change wpAnyH _ _ _ _ _ _ _ (Act.put _ (some 63) _) _
            try simp only [Act.put, List.setIfInBounds_toArray, List.set_cons_zero, List.set_cons_succ]
            refine wpAnyH_done (by kernel_rfl) ?_ _
            clear H0 hS0 hS5
            go_wp2_with fail
            go_roundw
            case rel => exact ⟨k + 1, by omega, by go_num, H5⟩
            case measure => simp [intOf]; omega
          | false =>
            obtain ⟨hn1, hn2, hn3⟩ := back_number l k hkl pn ps hp hg
            have KT := Lib.hid (fun w' (h : One w w' a (bs (encs l)) (pos l k) 0) => one_number h hsl.out hpl)
            rw [hn1, hn2, hn3] at KT
            rw [hp] at hkeep
            have d1 : (pn != pn) = false := by simp
            have hS0 := hkeep.out wr.drew ho.out.on.drew
            have H0 : Hid (One w wr.drew a (bs (encs l)) (pos l k) 0) := Lib.hid ⟨ho.out.x.drew, ho.out.on.drew, ho.out.ba⟩
            clear c0 c1 c2 hcell hg hpl hn1 hn2 hn3 hp hlt ho
            go_wp2_with fail
            refine wp_region_held_drew (S := fun w' => w'.cell? ⟨b, off + k * 3, none⟩ = some (.bool false) ∧ w'.cell? ⟨b, off + k * 3 + 1, none⟩ = some (.int .i64 pn) ∧ w'.cell? ⟨b, off + k * 3 + 2, none⟩ = some (.string ps)) (by kernel_rfl) hS0 (fun _ => ?_)
            refine wpAnyH_take (i := 0) (v := (.slice (some ⟨b, off, none⟩) l.length cap)) rfl (by kernel_rfl) (by kernel_rfl) (by kernel_rfl) (fun _ _ _ h => h) (Or.inl ⟨by kernel_rfl, ?_⟩) hS0 ?_
            · intro W' hSw
              obtain ⟨q0, q1, q2⟩ := hSw
              go_simp
            change wpAnyH _ _ _ _ _ _ _ (Act.put _ (some 31) _) _
            try simp only [Act.put, List.setIfInBounds_toArray, List.set_cons_zero, List.set_cons_succ]
            refine wpAnyH_take (i := 1) (v := (.int .i64 (k : Int))) rfl (by kernel_rfl) (by kernel_rfl) (by kernel_rfl) (fun _ _ _ h => h) (Or.inl ⟨by kernel_rfl, ?_⟩) hS0 ?_
            · intro W' hSw
              obtain ⟨q0, q1, q2⟩ := hSw
              go_simp
            change wpAnyH _ _ _ _ _ _ _ (Act.put _ (some 32) _) _
            try simp only [Act.put, List.setIfInBounds_toArray, List.set_cons_zero, List.set_cons_succ]
            refine wpAnyH_take (i := 2) (v := (.pointer (some ⟨b, off + k * 3, none⟩))) rfl (by kernel_rfl) (by kernel_rfl) (by kernel_rfl) (fun _ _ _ h => h) (Or.inl ⟨by kernel_rfl, ?_⟩) hS0 ?_
            · intro W' hSw
              obtain ⟨q0, q1, q2⟩ := hSw
              go_simp
            change wpAnyH _ _ _ _ _ _ _ (Act.put _ (some 33) _) _
            try simp only [Act.put, List.setIfInBounds_toArray, List.set_cons_zero, List.set_cons_succ]
            refine wpAnyH_take (i := 3) (v := (.pointer (some ⟨b, off + k * 3, none⟩))) rfl (by kernel_rfl) (by kernel_rfl) (by kernel_rfl) (fun _ _ _ h => h) (Or.inl ⟨by kernel_rfl, ?_⟩) hS0 ?_
            · intro W' hSw
              obtain ⟨q0, q1, q2⟩ := hSw
              go_simp
            change wpAnyH _ _ _ _ _ _ _ (Act.put _ (some 34) _) _
            try simp only [Act.put, List.setIfInBounds_toArray, List.set_cons_zero, List.set_cons_succ]
            refine wpAnyH_take (i := 4) (v := (.bool false)) rfl (by kernel_rfl) (by kernel_rfl) (by kernel_rfl) (fun _ _ _ h => h) (Or.inl ⟨by kernel_rfl, ?_⟩) hS0 ?_
            · intro W' hSw
              obtain ⟨q0, q1, q2⟩ := hSw
              go_simp
            change wpAnyH _ _ _ _ _ _ _ (Act.put _ (some 35) _) _
            try simp only [Act.put, List.setIfInBounds_toArray, List.set_cons_zero, List.set_cons_succ]
            refine wpAnyH_take (i := 5) (v := (.bool false)) rfl (by kernel_rfl) (by kernel_rfl) (by kernel_rfl) (fun _ _ _ h => h) (Or.inl ⟨by kernel_rfl, ?_⟩) hS0 ?_
            · intro W' hSw
              obtain ⟨q0, q1, q2⟩ := hSw
              go_simp
            change wpAnyH _ _ _ _ _ _ _ (Act.put _ (some 36) _) _
            try simp only [Act.put, List.setIfInBounds_toArray, List.set_cons_zero, List.set_cons_succ]
            refine wpAnyH_take (i := 6) (v := undef) rfl (by kernel_rfl) (by kernel_rfl) (by kernel_rfl) (fun _ _ _ h => h) (Or.inr ⟨by kernel_rfl, rfl⟩) hS0 ?_
            change wpAnyH _ _ _ _ _ _ _ (Act.put _ (some 37) _) _
            try simp only [Act.put, List.setIfInBounds_toArray, List.set_cons_zero, List.set_cons_succ]
            refine wpAnyH_take (i := 7) (v := undef) rfl (by kernel_rfl) (by kernel_rfl) (by kernel_rfl) (fun _ _ _ h => h) (Or.inr ⟨by kernel_rfl, rfl⟩) hS0 ?_
            change wpAnyH _ _ _ _ _ _ _ (Act.put _ (some 38) _) _
            try simp only [Act.put, List.setIfInBounds_toArray, List.set_cons_zero, List.set_cons_succ]
            refine wpAnyH_take (i := 8) (v := undef) rfl (by kernel_rfl) (by kernel_rfl) (by kernel_rfl) (fun _ _ _ h => h) (Or.inr ⟨by kernel_rfl, rfl⟩) hS0 ?_
            change wpAnyH _ _ _ _ _ _ _ (Act.put _ (some 39) _) _
            try simp only [Act.put, List.setIfInBounds_toArray, List.set_cons_zero, List.set_cons_succ]
            refine wpAnyH_take (i := 9) (v := undef) rfl (by kernel_rfl) (by kernel_rfl) (by kernel_rfl) (fun _ _ _ h => h) (Or.inr ⟨by kernel_rfl, rfl⟩) hS0 ?_
            change wpAnyH _ _ _ _ _ _ _ (Act.put _ (some 40) _) _
            try simp only [Act.put, List.setIfInBounds_toArray, List.set_cons_zero, List.set_cons_succ]
            refine wpAnyH_take (i := 10) (v := undef) rfl (by kernel_rfl) (by kernel_rfl) (by kernel_rfl) (fun _ _ _ h => h) (Or.inr ⟨by kernel_rfl, rfl⟩) hS0 ?_
            change wpAnyH _ _ _ _ _ _ _ (Act.put _ (some 41) _) _
            try simp only [Act.put, List.setIfInBounds_toArray, List.set_cons_zero, List.set_cons_succ]
            refine wpAnyH_take (i := 11) (v := undef) rfl (by kernel_rfl) (by kernel_rfl) (by kernel_rfl) (fun _ _ _ h => h) (Or.inr ⟨by kernel_rfl, rfl⟩) hS0 ?_
            change wpAnyH _ _ _ _ _ _ _ (Act.put _ (some 42) _) _
            try simp only [Act.put, List.setIfInBounds_toArray, List.set_cons_zero, List.set_cons_succ]
            refine wpAnyH_take (i := 12) (v := undef) rfl (by kernel_rfl) (by kernel_rfl) (by kernel_rfl) (fun _ _ _ h => h) (Or.inr ⟨by kernel_rfl, rfl⟩) hS0 ?_
            change wpAnyH _ _ _ _ _ _ _ (Act.put _ (some 43) _) _
            try simp only [Act.put, List.setIfInBounds_toArray, List.set_cons_zero, List.set_cons_succ]
            refine wpAnyH_take (i := 13) (v := undef) rfl (by kernel_rfl) (by kernel_rfl) (by kernel_rfl) (fun _ _ _ h => h) (Or.inr ⟨by kernel_rfl, rfl⟩) hS0 ?_
            change wpAnyH _ _ _ _ _ _ _ (Act.put _ (some 44) _) _
            try simp only [Act.put, List.setIfInBounds_toArray, List.set_cons_zero, List.set_cons_succ]
            refine wpAnyH_take (i := 14) (v := (.bool false)) rfl (by kernel_rfl) (by kernel_rfl) (by kernel_rfl) (fun _ _ _ h => h) (Or.inl ⟨by kernel_rfl, ?_⟩) hS0 ?_
            · intro W' hSw
              obtain ⟨q0, q1, q2⟩ := hSw
              go_simp
            change wpAnyH _ _ _ _ _ _ _ (Act.put _ (some 45) _) _
            try simp only [Act.put, List.setIfInBounds_toArray, List.set_cons_zero, List.set_cons_succ]
            refine wpAnyH_take (i := 15) (v := (.bool false)) rfl (by kernel_rfl) (by kernel_rfl) (by kernel_rfl) (fun _ _ _ h => h) (Or.inl ⟨by kernel_rfl, ?_⟩) hS0 ?_
            · intro W' hSw
              obtain ⟨q0, q1, q2⟩ := hSw
              go_simp
            change wpAnyH _ _ _ _ _ _ _ (Act.put _ (some 46) _) _
            try simp only [Act.put, List.setIfInBounds_toArray, List.set_cons_zero, List.set_cons_succ]
            refine wpAnyH_take (i := 16) (v := (.slice (some ⟨b, off, none⟩) l.length cap)) rfl (by kernel_rfl) (by kernel_rfl) (by kernel_rfl) (fun _ _ _ h => h) (Or.inl ⟨by kernel_rfl, ?_⟩) hS0 ?_
            · intro W' hSw
              obtain ⟨q0, q1, q2⟩ := hSw
              go_simp
            change wpAnyH _ _ _ _ _ _ _ (Act.put _ (some 47) _) _
            try simp only [Act.put, List.setIfInBounds_toArray, List.set_cons_zero, List.set_cons_succ]
            refine wpAnyH_take (i := 17) (v := (.int .i64 (k : Int))) rfl (by kernel_rfl) (by kernel_rfl) (by kernel_rfl) (fun _ _ _ h => h) (Or.inl ⟨by kernel_rfl, ?_⟩) hS0 ?_
            · intro W' hSw
              obtain ⟨q0, q1, q2⟩ := hSw
              go_simp
            change wpAnyH _ _ _ _ _ _ _ (Act.put _ (some 48) _) _
            try simp only [Act.put, List.setIfInBounds_toArray, List.set_cons_zero, List.set_cons_succ]
            refine wpAnyH_take (i := 18) (v := (.pointer (some ⟨b, off + k * 3, none⟩))) rfl (by kernel_rfl) (by kernel_rfl) (by kernel_rfl) (fun _ _ _ h => h) (Or.inl ⟨by kernel_rfl, ?_⟩) hS0 ?_
            · intro W' hSw
              obtain ⟨q0, q1, q2⟩ := hSw
              go_simp
            change wpAnyH _ _ _ _ _ _ _ (Act.put _ (some 49) _) _
            try simp only [Act.put, List.setIfInBounds_toArray, List.set_cons_zero, List.set_cons_succ]
            refine wpAnyH_take (i := 19) (v := (.pointer (some ⟨b, off + k * 3, none⟩))) rfl (by kernel_rfl) (by kernel_rfl) (by kernel_rfl) (fun _ _ _ h => h) (Or.inl ⟨by kernel_rfl, ?_⟩) hS0 ?_
            · intro W' hSw
              obtain ⟨q0, q1, q2⟩ := hSw
              go_simp
            change wpAnyH _ _ _ _ _ _ _ (Act.put _ (some 50) _) _
            try simp only [Act.put, List.setIfInBounds_toArray, List.set_cons_zero, List.set_cons_succ]
            refine wpAnyH_take (i := 20) (v := (.bool false)) rfl (by kernel_rfl) (by kernel_rfl) (by kernel_rfl) (fun _ _ _ h => h) (Or.inl ⟨by kernel_rfl, ?_⟩) hS0 ?_
            · intro W' hSw
              obtain ⟨q0, q1, q2⟩ := hSw
              go_simp
            change wpAnyH _ _ _ _ _ _ _ (Act.put _ (some 51) _) _
            try simp only [Act.put, List.setIfInBounds_toArray, List.set_cons_zero, List.set_cons_succ]
            refine wpAnyH_take (i := 21) (v := (.bool true)) rfl (by kernel_rfl) (by kernel_rfl) (by kernel_rfl) (fun _ _ _ h => h) (Or.inl ⟨by kernel_rfl, ?_⟩) hS0 ?_
            · intro W' hSw
              obtain ⟨q0, q1, q2⟩ := hSw
              go_simp
            change wpAnyH _ _ _ _ _ _ _ (Act.put _ (some 52) _) _
            try simp only [Act.put, List.setIfInBounds_toArray, List.set_cons_zero, List.set_cons_succ]
            refine wpAnyH_take (i := 22) (v := (.bool true)) rfl (by kernel_rfl) (by kernel_rfl) (by kernel_rfl) (fun _ _ _ h => h) (Or.inl ⟨by kernel_rfl, ?_⟩) hS0 ?_
            · intro W' hSw
              obtain ⟨q0, q1, q2⟩ := hSw
              go_simp
            change wpAnyH _ _ _ _ _ _ _ (Act.put _ (some 53) _) _
            try simp only [Act.put, List.setIfInBounds_toArray, List.set_cons_zero, List.set_cons_succ]
            refine wpAnyH_take (i := 23) (v := (.pointer (some ⟨a, 0, none⟩))) rfl (by kernel_rfl) (by kernel_rfl) (by kernel_rfl) (fun _ _ _ h => h) (Or.inl ⟨by kernel_rfl, ?_⟩) hS0 ?_
            · intro W' hSw
              obtain ⟨q0, q1, q2⟩ := hSw
              go_simp
            change wpAnyH _ _ _ _ _ _ _ (Act.put _ (some 54) _) _
            try simp only [Act.put, List.setIfInBounds_toArray, List.set_cons_zero, List.set_cons_succ]
            refine wpAnyH_take (i := 25) (v := (.slice (some ⟨b, off, none⟩) l.length cap)) rfl (by kernel_rfl) (by kernel_rfl) (by kernel_rfl) (fun _ _ _ h => h) (Or.inl ⟨by kernel_rfl, ?_⟩) hS0 ?_
            · intro W' hSw
              obtain ⟨q0, q1, q2⟩ := hSw
              go_simp
            change wpAnyH _ _ _ _ _ _ _ (Act.put _ (some 56) _) _
            try simp only [Act.put, List.setIfInBounds_toArray, List.set_cons_zero, List.set_cons_succ]
            refine wpAnyH_take (i := 26) (v := (.int .i64 (k : Int))) rfl (by kernel_rfl) (by kernel_rfl) (by kernel_rfl) (fun _ _ _ h => h) (Or.inl ⟨by kernel_rfl, ?_⟩) hS0 ?_
            · intro W' hSw
              obtain ⟨q0, q1, q2⟩ := hSw
              go_simp
            change wpAnyH _ _ _ _ _ _ _ (Act.put _ (some 57) _) _
            try simp only [Act.put, List.setIfInBounds_toArray, List.set_cons_zero, List.set_cons_succ]
            refine wpAnyH_take (i := 27) (v := (.pointer (some ⟨b, off + k * 3, none⟩))) rfl (by kernel_rfl) (by kernel_rfl) (by kernel_rfl) (fun _ _ _ h => h) (Or.inl ⟨by kernel_rfl, ?_⟩) hS0 ?_
            · intro W' hSw
              obtain ⟨q0, q1, q2⟩ := hSw
              go_simp
            change wpAnyH _ _ _ _ _ _ _ (Act.put _ (some 58) _) _
            try simp only [Act.put, List.setIfInBounds_toArray, List.set_cons_zero, List.set_cons_succ]
            refine wpAnyH_take (i := 28) (v := (.pointer (some ⟨b, off + k * 3 + 1, none⟩))) rfl (by kernel_rfl) (by kernel_rfl) (by kernel_rfl) (fun _ _ _ h => h) (Or.inl ⟨by kernel_rfl, ?_⟩) hS0 ?_
            · intro W' hSw
              obtain ⟨q0, q1, q2⟩ := hSw
              go_simp
            change wpAnyH _ _ _ _ _ _ _ (Act.put _ (some 59) _) _
            try simp only [Act.put, List.setIfInBounds_toArray, List.set_cons_zero, List.set_cons_succ]
            refine wpAnyH_take (i := 29) (v := (.int .i64 pn)) rfl (by kernel_rfl) (by kernel_rfl) (by kernel_rfl) (fun _ _ _ h => h) (Or.inl ⟨by kernel_rfl, ?_⟩) hS0 ?_
            · intro W' hSw
              obtain ⟨q0, q1, q2⟩ := hSw
              go_simp
            change wpAnyH _ _ _ _ _ _ _ (Act.put _ (some 60) _) _
            try simp only [Act.put, List.setIfInBounds_toArray, List.set_cons_zero, List.set_cons_succ]
            refine wpAnyH_ready (rs := [24]) (by kernel_rfl) (by simp) ?_
            refine AllReadyH.cons rfl (fun K hK => ?_) AllReadyH.nil
            go_simp
            go_at_call 25
            refine (KT.out _ H0.out).mono ?_
            rintro e w5 ⟨rfl, h5⟩
            have H5 := Lib.hid h5
            have hS5 := hkeep.out _ h5.on
            clear h5 KT
            refine hK.out _ _ hS5 (fun _ => ?_)
            clear hK
            try simp only [Act.put, List.setIfInBounds_toArray, List.set_cons_zero, List.set_cons_succ]
            refine wpAnyH_take (i := 30) (v := (.bool false)) rfl (by kernel_rfl) (by kernel_rfl) (by kernel_rfl) (fun _ _ _ h => h) (Or.inl ⟨by kernel_rfl, ?_⟩) hS5 ?_
            · intro W' hSw
              obtain ⟨q0, q1, q2⟩ := hSw
              go_simp
            change wpAnyH _ _ _ _ _ _ _ (Act.put _ (some 61) _) _
            try simp only [Act.put, List.setIfInBounds_toArray, List.set_cons_zero, List.set_cons_succ]
            refine wpAnyH_take (i := 31) (v := (.bool false)) rfl (by kernel_rfl) (by kernel_rfl) (by kernel_rfl) (fun _ _ _ h => h) (Or.inl ⟨by kernel_rfl, ?_⟩) hS5 ?_
            · intro W' hSw
              obtain ⟨q0, q1, q2⟩ := hSw
              go_simp
            change wpAnyH _ _ _ _ _ _ _ (Act.put _ (some 62) _) _
            try simp only [Act.put, List.setIfInBounds_toArray, List.set_cons_zero, List.set_cons_succ]
            refine wpAnyH_take (i := 32) (v := (.bool false)) rfl (by kernel_rfl) (by kernel_rfl) (by kernel_rfl) (fun _ _ _ h => h) (Or.inl ⟨by kernel_rfl, ?_⟩) hS5 ?_
            · intro W' hSw
              obtain ⟨q0, q1, q2⟩ := hSw
              go_simp
            change wpAnyH _ _ _ _ _ _ _ (Act.put _ (some 63) _) _
            try simp only [Act.put, List.setIfInBounds_toArray, List.set_cons_zero, List.set_cons_succ]
            refine wpAnyH_done (by kernel_rfl) ?_ _
            clear H0 hS0 hS5
            go_wp2_with fail
            go_roundw
            case rel => exact ⟨k + 1, by omega, by go_num, H5⟩
            case measure => simp [intOf]; omega
        · obtain rfl : k = l.length := by omega
          have e1 : decide ((l.length : Int) < (l.length : Int)) = false := decide_eq_false (by omega)
          have KD := Lib.hid (fun w' (h : One w w' a (bs (encs l)) (pos l l.length) 0) => one_done h)
          have hde : dE (bs (encs l)) (pos l l.length) 0 = 0 := by unfold dE; rw [Hbl.out, pos_all, if_neg (by omega)]
          rw [hde] at KD
          have hps : (((pos l l.length : Nat) : Int) == ((bs (encs l)).size : Int)) = true := by rw [pos_all, Hbl.out]; simp
          clear hde
          generalize pos l l.length = q at *
          generalize bs (encs l) = s at *
          go_wp2_with fail
          refine (KD.out _ ho.out).mono ?_
          rintro e w6 ⟨rfl, h6⟩
          have H6 := Lib.hid h6
          clear h6 KD ho
          go_wp2_with fail
          go_ret
          exact ⟨rfl, H6.out.on⟩
    · have dz : ((putAll l).2 != 0) = true := by simp; exact hz
      clear hz
      generalize (putAll l).2 = z at *
      generalize bs (doneS (putAll l)) = x at *
      go_wp2_with fail
      refine KW2.out.mono ?_
      rintro e w3 ⟨rfl, b3⟩
      have B3 := Lib.hid (B1.out.trans (b3.mono B1.out.size))
      clear b3 KW2
      go_wp2_with fail
      go_ret
      exact ⟨rfl, B3.out⟩
end Go.Proofs.Ytidmcifckbpgbaa.vr
