/-
  intern: the law on numbers.
-/
import Derived.Test.YtehieiddelngfaaInQ
namespace Go.Proofs.Ytehieiddelngfaa.inn
open Go.RowKit Go.Shelf Go.Sort Go.Proofs.Ytehieiddelngfaa.mem

theorem stop_small (stop : Int) : ∃ s : Nat, s < 20 ∧ wrap64 ((IntKind.u64.wrap stop).tmod 20) = (s : Int) := by
  have h0 : 0 ≤ IntKind.u64.wrap stop := by
    unfold IntKind.wrap
    simp only [IntKind.signed, IntKind.bits, Bool.false_and, Bool.false_eq_true, if_false]
    omega
  rw [Int.tmod_eq_emod_of_nonneg h0]
  generalize IntKind.u64.wrap stop = u at *
  refine ⟨(u % 20).toNat, by omega, ?_⟩
  rw [IntWalk.wrap64_in _ (by omega)]
  omega

/-- what happens behind the loops -/
def OnePost (w0 : World) (e : Ending) (w' : World) : Prop := e = .returned (.bool true) ∧ Below w0.heap.size w0 w'

set_option maxRecDepth 100000 in
set_option maxHeartbeats 4000000 in
theorem law_one (w : World) (A1 : Option Addr) (c1 : Nat) (l : List Int) (stop : Int) (h1 : Rd w A1 (l.map eI)) (hl : l.length ≤ 9223372036854775807) (hwl : ∀ x ∈ l, WF x) (hst : WF stop) :
    Calls Try.prog 5 #[.slice A1 l.length c1, .int .i64 stop] w (OnePost w) := by
  have H1 := Lib.hid h1
  have HW := Lib.hid hwl
  have HS := Lib.hid hst
  have hb0 : Hid (Box (w.alloc (.cells #[.int .i64 stop] 3)) w.heap.size 3 #[.int .i64 stop]) := Lib.hid (Box.new w _ _)
  have K1 := Lib.hid (works_any (w.alloc (.cells #[.int .i64 stop] 3)))
  clear h1 hwl hst
  go_enter Try.func5, Try.ntmps5
  go_wp2_with fail
  refine K1.out.mono ?_
  rintro e w1 ⟨rfl, b1⟩
  have B1 : Hid (Below w.heap.size w w1) := Lib.hid (((Below.refl _ w).alloc (Nat.le_refl _) _).trans (b1.mono (by simp)))
  have Bs : Hid (Box w1 w.heap.size 3 #[.int .i64 stop]) := Lib.hid (hb0.out.kept (Fr.of_below b1 []) (by simp))
  have hz1 : w.heap.size + 1 ≤ w1.heap.size := by have := b1.size; simpa using this
  clear b1 K1 hb0
  by_cases hgr : (200 : Int) < (l.length : Int)
  · have d0 : decide ((200 : Int) < (l.length : Int)) = true := decide_eq_true hgr
    clear hgr
    go_wp2_with fail
    go_ret
    exact ⟨rfl, B1.out⟩
  have d0 : decide ((200 : Int) < (l.length : Int)) = false := decide_eq_false hgr
  have hl2 : l.length ≤ 200 := by omega
  have T0 := Lib.hid (TN.new w1)
  clear hgr
  go_wp2_with fail
  go_loopw [6, 7] (fun m i wr => ∃ (k : Nat) (B : Option Addr) (c : Nat), k ≤ l.length ∧ i = .int .i64 k ∧ m = .slice B k c ∧ Hid (TN w1 wr w1.heap.size k (nubI (l.take k)) ((l.take k).map fun y => ((noOf (nubI l) y : Nat) : Int)) B c)) (fun _ i _ => l.length - (intOf i).toNat)
  case atStart => exact ⟨0, none, 0, by omega, rfl, rfl, T0⟩
  case round =>
    obtain ⟨k, B, c, hk, rfl, rfl, ht⟩ := hrel
    rename_i wr _
    by_cases hkl : k < l.length
    · have e1 : decide ((k : Int) < (l.length : Int)) = true := decide_eq_true (by omega)
      obtain ⟨b, off, rfl, hlt, hcell⟩ := rd_int H1.out (by omega)
      have ck : wr.cell? ⟨b, off + k, none⟩ = some (eI l[k]) := (ht.out.on.cell (p := ⟨b, off + k, none⟩) (by show b < _; omega)).trans ((B1.out.cell (p := ⟨b, off + k, none⟩) hlt).trans (hcell k hkl))
      have hx : WF l[k] := HW.out _ (List.getElem_mem hkl)
      have hnl : (nubI (l.take k)).length ≤ k := by have := nubI_len (l.take k); rw [List.length_take] at this; omega
      obtain ⟨i0, hi0, hz0, hza, hzb⟩ := info_parts info_int
      have Hi := Lib.hid hi0
      have Hz0 := Lib.hid hz0
      have Hz1 := Lib.hid hza
      have Hz2 := Lib.hid hzb
      have hns := nubI_snoc l k hkl
      -- Put, whatever it is
      obtain ⟨r, isNew, KP⟩ : ∃ (r : Nat) (isNew : Bool), Hid (r = noOf (nubI l) l[k] ∧ Calls Try.prog 20 #[.pointer (some ⟨w1.heap.size, 0, none⟩), .int .i64 l[k]] wr fun e w' => e = .returned (.tuple #[.int .i64 r, .bool isNew]) ∧ TN w1 w' w1.heap.size (k + 1) (nubI (l.take (k + 1))) ((l.take k).map fun y => ((noOf (nubI l) y : Nat) : Int)) B c) := by
        by_cases hin : l[k] ∈ nubI (l.take k)
        · refine ⟨noOf (nubI (l.take k)) l[k], false, Lib.hid ⟨(noOf_prefix (nubI_prefix l k) hin).symm, ?_⟩⟩
          rw [if_pos hin] at hns
          rw [hns]
          exact tn_old ht.out l[k] hx hin
        · refine ⟨(nubI (l.take k)).length, true, Lib.hid ⟨(put_no l k hkl hin).symm, ?_⟩⟩
          rw [if_neg hin] at hns
          rw [hns]
          exact tn_new ht.out l[k] hx hin (by omega)
      have Hr := Lib.hid KP.out.1
      have KP := Lib.hid KP.out.2
      have hlen : Hid ((vals ((l.take k).map fun y => ((noOf (nubI l) y : Nat) : Int))).length = k) := Lib.hid (by simp [vals]; omega)
      have hsn : Hid ((l.take (k + 1)).map (fun y => ((noOf (nubI l) y : Nat) : Int)) = (l.take k).map (fun y => ((noOf (nubI l) y : Nat) : Int)) ++ [(r : Int)]) := Lib.hid (by rw [List.take_succ_eq_append_getElem hkl, List.map_append, List.map_singleton, Hr.out])
      clear hns hcell hi0 hz0 hza hzb hx
      generalize (l.take k).map (fun y => ((noOf (nubI l) y : Nat) : Int)) = ys at *
      generalize l[k] = x at *
      go_wp2_with fail
      refine KP.out.mono ?_
      rintro e w3 ⟨rfl, t3⟩
      have T3 := Lib.hid t3
      clear t3 ht ck
      go_wp2_with (at_builtin
                   refine wpList_push rfl _ _ _ rfl (T3.out.seg.alloc _) hlen.out.symm Try.underlying39 Hi.out Hz0.out Hz1.out Hz2.out rfl rfl rfl (new_cell _ _ _) rfl (by omega) (by omega) ?_
                   intro A' cap' w5 hs5 b5 hf5)
      have T5 := Lib.hid (tn_push T3.out _ hs5 b5 hf5)
      clear hs5 b5 hf5
      go_roundw
      case rel => exact ⟨k + 1, A', cap', by omega, by go_num, rfl, by rw [hsn.out]; exact T5⟩
      case measure => simp [intOf]; omega
    · obtain rfl : k = l.length := by omega
      have e1 : decide ((l.length : Int) < (l.length : Int)) = false := decide_eq_false (by omega)
      have hM : (nubI l).length ≤ 200 := by have := nubI_len l; omega
      have hin : Hid (∀ x ∈ l, x ∈ nubI l) := Lib.hid (mem_nubI l)
      rw [List.take_length] at ht
      have hyl : (l.map fun y => ((noOf (nubI l) y : Nat) : Int)).length = l.length := by simp
      have hyg : Hid (∀ (j : Nat) (hj : j < l.length), (l.map fun y => ((noOf (nubI l) y : Nat) : Int))[j]? = some ((noOf (nubI l) l[j] : Nat) : Int)) := Lib.hid (fun j hj => by rw [List.getElem?_map, List.getElem?_eq_getElem hj]; rfl)
      clear T0
      generalize (l.map fun y => ((noOf (nubI l) y : Nat) : Int)) = ys at *
      generalize nubI l = M at *
      go_wp2_with fail
      go_loopw [10] (fun i w2 => ∃ k : Nat, k ≤ l.length ∧ i = .int .i64 k ∧ wr = w2) (fun i _ => l.length - (intOf i).toNat)
      case atStart => exact ⟨0, by omega, rfl, rfl⟩
      case round =>
        obtain ⟨k, hk, rfl, rfl⟩ := hrel
        by_cases hkl : k < l.length
        · have e2 : decide ((k : Int) < (l.length : Int)) = true := decide_eq_true (by omega)
          obtain ⟨b, off, rfl, hlt, hcell⟩ := rd_int H1.out (by omega)
          have ck : wr.cell? ⟨b, off + k, none⟩ = some (eI l[k]) := (ht.out.on.cell (p := ⟨b, off + k, none⟩) (by show b < _; omega)).trans ((B1.out.cell (p := ⟨b, off + k, none⟩) hlt).trans (hcell k hkl))
          obtain ⟨b', off', rfl, hlt', hcell'⟩ := rd_int (l := ys) ht.out.seg.rd (by omega)
          have ck' := hcell' k (by omega)
          have hy2 : ys[k]'(by omega) = ((noOf M l[k] : Nat) : Int) := Option.some.inj ((List.getElem?_eq_getElem _).symm.trans (hyg.out k hkl))
          rw [hy2] at ck'
          clear hy2
          have hx : WF l[k] := HW.out _ (List.getElem_mem hkl)
          have hxm : l[k] ∈ M := hin.out _ (List.getElem_mem hkl)
          obtain ⟨hr, hMr⟩ := noOf_get hxm
          have KA := Lib.hid (tn_at ht.out (noOf M l[k]) hr (by omega))
          rw [hMr] at KA
          have KF := Lib.hid (tn_find ht.out l[k] hx)
          rw [decide_eq_true hxm] at KF
          have KL := Lib.hid (tn_len ht.out)
          clear hcell hcell' hMr hx hxm ht
          generalize noOf M l[k] = r at *
          generalize l[k] = x at *
          go_wp2_with fail
          refine KA.out.mono ?_
          rintro e w3 ⟨rfl, rfl⟩
          go_wp2_with fail
          refine KF.out.mono ?_
          rintro e w3 ⟨rfl, rfl⟩
          go_wp2_with fail
          refine KL.out.mono ?_
          rintro e w3 ⟨rfl, rfl⟩
          go_wp2_with fail
          go_roundw
          case rel => exact ⟨k + 1, by omega, by go_num, trivial⟩
          case measure => simp [intOf]; omega
        · obtain rfl : k = l.length := by omega
          have e2 : decide ((l.length : Int) < (l.length : Int)) = false := decide_eq_false (by omega)
          have Bs2 := Lib.hid (Bs.out.kept (Fr.of_below ht.out.on []) (by simp))
          have cs : wr.cell? ⟨w.heap.size, 0, none⟩ = some (.int .i64 stop) := Bs2.out.cell 0
          have fs : wr.frozen? ⟨w.heap.size, 0, none⟩ = false := Bs2.out.free 0
          obtain ⟨s, hs, hsv⟩ := stop_small stop
          obtain ⟨A, cap, m, ha, hfoot, _⟩ := ht.out.ex
          obtain ⟨E, hE⟩ : ∃ E, Hid (E = wrap64 ((IntKind.u64.wrap stop).tmod 20)) := ⟨_, Lib.hid rfl⟩
          have HA := Lib.hid ha
          have HF := Lib.hid hfoot
          have HO := Lib.hid ht.out.on
          clear ha hfoot ht H1 HW
          go_wp2_with fail
          rw [hsv]
          clear hsv hE
          obtain ⟨wa, hwa⟩ : ∃ wa, Hid (wa = wr.setCell ⟨w.heap.size, 0, none⟩ (.int .i64 s)) := ⟨_, Lib.hid rfl⟩
          rw [← hwa.out]
          have hza : wa.heap.size = wr.heap.size := by rw [hwa.out]; simp [World.setCell]
          have hzr : w1.heap.size ≤ wr.heap.size := HO.out.size
          have fa : Fr [w.heap.size] wr wa := by rw [hwa.out]; exact (Fr.refl [w.heap.size] wr).setCell (p := ⟨w.heap.size, 0, none⟩) (Or.inl (by simp)) _
          have bsa : Box wa w.heap.size 3 #[.int .i64 s] := by rw [hwa.out]; exact Bs2.out.put 0 _
          obtain ⟨w3, hw3⟩ : ∃ w3, Hid (w3 = ((wa.alloc (.cells #[.int .i64 0] 3)).alloc (.cells #[.int .i64 0] 3)).alloc (.cells #[.bool true] 4)) := ⟨_, Lib.hid rfl⟩
          rw [← hw3.out]
          refine (rising_new w3 w1.heap.size).mono ?_
          rintro e w4' ⟨rfl, rfl⟩
          have hs3 : w3.heap.size = wr.heap.size + 3 := by rw [hw3.out]; simp [hza]
          have fa3 : Fr [] wa w3 := by rw [hw3.out]; exact (((Fr.refl [] wa).alloc _).alloc _).alloc _
          obtain ⟨w4, hw4⟩ : ∃ w4, Hid (w4 = w3.alloc (.cells #[.pointer (some ⟨w1.heap.size, 0, none⟩)] 40)) := ⟨_, Lib.hid rfl⟩
          have f34 : Fr [] w3 w4 := by rw [hw4.out]; exact (Fr.refl [] w3).alloc _
          have fa4 : Fr [] wa w4 := fa3.trans f34 (by simp) (by simp)
          have hs4 : w4.heap.size = wr.heap.size + 4 := by rw [hw4.out]; simp [hs3]
          have hfl := HA.out.lt
          have fr4 : Fr [w.heap.size] wr w4 := fa.trans fa4 (by simp) (by simp)
          have hT4 : Tb w4 w1.heap.size A cap m l.length M := HA.out.kept fr4 (fun g hg hm => by rw [List.mem_singleton] at hm; subst hm; have := HF.out _ hg; omega)
          have hon : Below w.heap.size w w4 := on_fr (on_fr B1.out (Fr.of_below HO.out []) (by simp) B1.out.size) fr4 (by simp) (by have := B1.out.size; omega)
          have hJ0 : JI w w4 wr.heap.size w.heap.size s (rsI M) [] := by
            refine ⟨hon, ⟨true, ?_, fun _ => rfl⟩, ?_, ?_, bsa.kept fa4 (by simp)⟩
            · refine Box.kept ?_ f34 (by simp)
              rw [hw3.out]
              have := Box.new ((wa.alloc (.cells #[.int .i64 0] 3)).alloc (.cells #[.int .i64 0] 3)) 4 #[.bool true]
              rwa [World.size_alloc, World.size_alloc, hza] at this
            · refine Box.kept ?_ f34 (by simp)
              rw [hw3.out]
              have := Box.new wa 3 #[.int .i64 0]
              rw [hza] at this
              exact this.kept (((Fr.refl [] _).alloc _).alloc _) (by simp)
            · refine Box.kept ?_ f34 (by simp)
              rw [hw3.out]
              have := Box.new (wa.alloc (.cells #[.int .i64 0] 3)) 3 #[.int .i64 0]
              rw [World.size_alloc, hza] at this
              exact this.kept ((Fr.refl [] _).alloc _) (by simp)
          have hrs := rsI_nodup_len HA.out.nod
          have hpw : (rsI M).Pairwise (fun a b => a < b) := (intoAll_spec ordI M).1
          have hsz := B1.out.size
          have K2 := Lib.hid (rise_i w4 (wr.heap.size + 3) w1.heap.size A cap m l.length M hT4 (by rw [hw4.out, ← hs3]; exact Box.new w3 _ _) (by omega) 25 #[.pointer (some ⟨wr.heap.size + 1 + 1, 0, none⟩), .pointer (some ⟨wr.heap.size, 0, none⟩), .pointer (some ⟨wr.heap.size + 1, 0, none⟩), .pointer (some ⟨w.heap.size, 0, none⟩)] (enters_of Try.func25 (by kernel_rfl) rfl)
            [wr.heap.size + 1 + 1, wr.heap.size + 1, wr.heap.size] (by simp <;> omega) (by simp <;> omega) (by have := hfl w1.heap.size (by simp [foot]); simp <;> omega) (fun g hg => by have := hfl g (by simp only [foot, List.mem_cons, List.mem_append]; exact Or.inr (Or.inr hg)); simp <;> omega)
            (fun pre W => (JI w W wr.heap.size w.heap.size s (rsI M) pre ∧ pre.length ≤ s) ∧ Box W w1.heap.size 43 #[.map m, .slice A M.length cap]) (fun pre W => (JI w W wr.heap.size w.heap.size s (rsI M) pre ∧ pre.length = s + 1) ∧ Box W w1.heap.size 43 #[.map m, .slice A M.length cap])
            (fun p W W' row h hg hr => ⟨⟨h.1.1.grown hg (fun r e => ⟨by have := (hr r e).1; omega, (hr r e).2⟩), h.1.2⟩, box_grown h.2 hg (fun r e => (hr r e).2)⟩) (fun p W W' row h hg hr => ⟨⟨h.1.1.grown hg (fun r e => ⟨by have := (hr r e).1; omega, (hr r e).2⟩), h.1.2⟩, box_grown h.2 hg (fun r e => (hr r e).2)⟩)
            ⟨⟨hJ0, by simp⟩, hT4.box⟩
            (fun pre W hj g hg => by
              simp only [List.mem_cons, List.not_mem_nil, or_false] at hg
              rcases hg with rfl | rfl | rfl
              · obtain ⟨q, hq, _⟩ := hj.1.1.bg
                exact ⟨_, hq, rfl⟩
              · exact ⟨_, hj.1.1.bl, rfl⟩
              · exact ⟨_, hj.1.1.bt, rfl⟩)
            (fun pre x W _ hj hk => by
              obtain ⟨⟨hj1, hj2⟩, hj3⟩ := hj
              obtain ⟨q, hq, hp⟩ := hj1.bg
              refine (told_i W (wr.heap.size + 1 + 1) wr.heap.size (wr.heap.size + 1) w.heap.size pre.length s q _ x _ (by omega) (by omega) hq hj1.bt hj1.bl hj1.bs (by omega) (by omega) (by omega) (by omega) (by omega) (by omega)).mono ?_
              rintro e W' ⟨rfl, rfl⟩
              obtain ⟨g1, g2⟩ := hj1.step (x := x) hq hp hpw (by omega) (by omega)
              have g3 := hj3.kept g1 (by have := hfl w1.heap.size (by simp [foot]); simp <;> omega)
              refine ⟨g1, ?_⟩
              by_cases hle : pre.length + 1 ≤ s
              · rw [decide_eq_true hle]
                exact Or.inl ⟨rfl, ⟨g2, by simpa using hle⟩, g3⟩
              · rw [decide_eq_false hle]
                exact Or.inr ⟨rfl, ⟨g2, by simp; omega⟩, g3⟩))
          rw [← hw4.out]
          clear hJ0 fa f34 fa3 fa4 hT4 hon bsa fr4 HA HF HO hpw cs fs Bs2 Bs B1
          go_wp2_with fail
          refine K2.out.mono ?_
          rintro e w5 ⟨rfl, hj⟩
          obtain ⟨t, ht, h5, hg, hbt, hbs, hbx⟩ : ∃ t : Nat, t = min (s + 1) M.length ∧ Below w.heap.size w w5 ∧ Box w5 (wr.heap.size + 1 + 1) 4 #[.bool true] ∧ Box w5 wr.heap.size 3 #[.int .i64 t] ∧ Box w5 w.heap.size 3 #[.int .i64 s] ∧ Box w5 w1.heap.size 43 #[.map m, .slice A M.length cap] := by
            rcases hj with ⟨⟨j1, j2⟩, j3⟩ | ⟨pre, hpre, ⟨j1, j2⟩, j3⟩
            · obtain ⟨q, hq, hp⟩ := j1.bg
              obtain rfl : q = true := hp (List.prefix_refl _)
              exact ⟨_, by omega, j1.on, hq, j1.bt, j1.bs, j3⟩
            · obtain ⟨q, hq, hp⟩ := j1.bg
              obtain rfl : q = true := hp hpre
              have := hpre.length_le
              exact ⟨_, by omega, j1.on, hq, j1.bt, j1.bs, j3⟩
          clear hj
          have KL := Lib.hid (tlen_any w5.drew w1.heap.size A cap M.length (.map m) hbx)
          have H5 : Hid (Below w.heap.size w w5.drew) := Lib.hid ⟨h5.os, h5.tape, h5.output, h5.size, h5.block⟩
          have cg : w5.drew.cell? ⟨wr.heap.size + 1 + 1, 0, none⟩ = some (.bool true) := hg.cell 0
          have ct : w5.drew.cell? ⟨wr.heap.size, 0, none⟩ = some (.int .i64 t) := hbt.cell 0
          have cb : w5.drew.cell? ⟨w.heap.size, 0, none⟩ = some (.int .i64 s) := hbs.cell 0
          clear h5 hg hbt hbs hbx K2 hfl hrs
          have e9 : ∀ x : Int, (x == x) = true := fun x => by simp
          have hsum : IntKind.i64.wrap ((s : Int) + 1) = (s : Int) + 1 := IntWalk.i64_in _ (by omega)
          have hmin : min ((s : Int) + 1) (M.length : Int) = (t : Int) := by omega
          clear ht
          go_wp2_with fail
          refine wp_region_held_drew (S := fun w' => w'.cell? ⟨wr.heap.size + 1 + 1, 0, none⟩ = some (.bool true) ∧ w'.cell? ⟨wr.heap.size, 0, none⟩ = some (.int .i64 t) ∧ w'.cell? ⟨w.heap.size, 0, none⟩ = some (.int .i64 s)) (by kernel_rfl) ⟨cg, ct, cb⟩ (fun hS => ?_)
          refine wpAnyH_take (i := 0) (v := (.bool true)) rfl (by kernel_rfl) (by kernel_rfl) (by kernel_rfl) (fun _ _ _ h => h) (Or.inl ⟨by kernel_rfl, ?_⟩) hS ?_
          · intro W' hSw
            obtain ⟨q0, q1, q2⟩ := hSw
            go_simp
          change wpAnyH _ _ _ _ _ _ _ (Act.put _ (some 114) _) _
          simp only [Act.put, List.setIfInBounds_toArray, List.set_cons_zero, List.set_cons_succ]
          refine wpAnyH_take (i := 1) (v := (.bool true)) rfl (by kernel_rfl) (by kernel_rfl) (by kernel_rfl) (fun _ _ _ h => h) (Or.inl ⟨by kernel_rfl, ?_⟩) hS ?_
          · intro W' hSw
            obtain ⟨q0, q1, q2⟩ := hSw
            go_simp
          change wpAnyH _ _ _ _ _ _ _ (Act.put _ (some 115) _) _
          simp only [Act.put, List.setIfInBounds_toArray, List.set_cons_zero, List.set_cons_succ]
          refine wpAnyH_take (i := 2) (v := (.int .i64 t)) rfl (by kernel_rfl) (by kernel_rfl) (by kernel_rfl) (fun _ _ _ h => h) (Or.inl ⟨by kernel_rfl, ?_⟩) hS ?_
          · intro W' hSw
            obtain ⟨q0, q1, q2⟩ := hSw
            go_simp
          change wpAnyH _ _ _ _ _ _ _ (Act.put _ (some 116) _) _
          simp only [Act.put, List.setIfInBounds_toArray, List.set_cons_zero, List.set_cons_succ]
          refine wpAnyH_take (i := 3) (v := (.int .i64 s)) rfl (by kernel_rfl) (by kernel_rfl) (by kernel_rfl) (fun _ _ _ h => h) (Or.inl ⟨by kernel_rfl, ?_⟩) hS ?_
          · intro W' hSw
            obtain ⟨q0, q1, q2⟩ := hSw
            go_simp
          change wpAnyH _ _ _ _ _ _ _ (Act.put _ (some 117) _) _
          simp only [Act.put, List.setIfInBounds_toArray, List.set_cons_zero, List.set_cons_succ]
          refine wpAnyH_take (i := 4) (v := (.int .i64 ((s : Int) + 1))) rfl (by kernel_rfl) (by kernel_rfl) (by kernel_rfl) (fun _ _ _ h => h) (Or.inl ⟨by kernel_rfl, ?_⟩) hS ?_
          · intro W' hSw
            obtain ⟨q0, q1, q2⟩ := hSw
            go_simp
          change wpAnyH _ _ _ _ _ _ _ (Act.put _ (some 118) _) _
          simp only [Act.put, List.setIfInBounds_toArray, List.set_cons_zero, List.set_cons_succ]
          refine wpAnyH_take (i := 5) (v := (.pointer (some ⟨w1.heap.size, 0, none⟩))) rfl (by kernel_rfl) (by kernel_rfl) (by kernel_rfl) (fun _ _ _ h => h) (Or.inl ⟨by kernel_rfl, ?_⟩) hS ?_
          · intro W' hSw
            obtain ⟨q0, q1, q2⟩ := hSw
            go_simp
          change wpAnyH _ _ _ _ _ _ _ (Act.put _ (some 119) _) _
          simp only [Act.put, List.setIfInBounds_toArray, List.set_cons_zero, List.set_cons_succ]
          refine wpAnyH_ready (rs := [6]) (by kernel_rfl) (by simp) ?_
          refine AllReadyH.cons rfl (fun K6 hK6 => ?_) AllReadyH.nil
          go_simp
          go_at_call 23
          refine KL.out.mono ?_
          rintro e w6 ⟨rfl, rfl⟩
          refine hK6.out _ _ hS (fun _ => ?_)
          clear hK6
          try simp only [Act.put, List.setIfInBounds_toArray, List.set_cons_zero, List.set_cons_succ]
          refine wpAnyH_take (i := 7) (v := (.int .i64 t)) rfl (by kernel_rfl) (by kernel_rfl) (by kernel_rfl) (fun _ _ _ h => h) (Or.inl ⟨by kernel_rfl, ?_⟩) hS ?_
          · intro W' hSw
            obtain ⟨q0, q1, q2⟩ := hSw
            go_simp
          change wpAnyH _ _ _ _ _ _ _ (Act.put _ (some 121) _) _
          simp only [Act.put, List.setIfInBounds_toArray, List.set_cons_zero, List.set_cons_succ]
          refine wpAnyH_take (i := 8) (v := (.bool true)) rfl (by kernel_rfl) (by kernel_rfl) (by kernel_rfl) (fun _ _ _ h => h) (Or.inl ⟨by kernel_rfl, ?_⟩) hS ?_
          · intro W' hSw
            obtain ⟨q0, q1, q2⟩ := hSw
            go_simp
          change wpAnyH _ _ _ _ _ _ _ (Act.put _ (some 122) _) _
          simp only [Act.put, List.setIfInBounds_toArray, List.set_cons_zero, List.set_cons_succ]
          refine wpAnyH_take (i := 9) (v := (.bool true)) rfl (by kernel_rfl) (by kernel_rfl) (by kernel_rfl) (fun _ _ _ h => h) (Or.inl ⟨by kernel_rfl, ?_⟩) hS ?_
          · intro W' hSw
            obtain ⟨q0, q1, q2⟩ := hSw
            go_simp
          change wpAnyH _ _ _ _ _ _ _ (Act.put _ (some 123) _) _
          simp only [Act.put, List.setIfInBounds_toArray, List.set_cons_zero, List.set_cons_succ]
          refine wpAnyH_take (i := 10) (v := (.bool true)) rfl (by kernel_rfl) (by kernel_rfl) (by kernel_rfl) (fun _ _ _ h => h) (Or.inl ⟨by kernel_rfl, ?_⟩) hS ?_
          · intro W' hSw
            obtain ⟨q0, q1, q2⟩ := hSw
            go_simp
          change wpAnyH _ _ _ _ _ _ _ (Act.put _ (some 4) _) _
          simp only [Act.put, List.setIfInBounds_toArray, List.set_cons_zero, List.set_cons_succ]
          refine wpAnyH_done (by kernel_rfl) ?_ _
          go_wp2_with fail
          go_ret
          exact ⟨rfl, H5.out⟩
end Go.Proofs.Ytehieiddelngfaa.inn
