/-
  tarjan: the reference's Leads: the walk.
-/
import Derived.Test.YtpdidgacmikllaaTjA6
namespace Go.Proofs.Ytpdidgacmikllaa.tj
open Go.RowKit Go.Proofs.Ytpdidgacmikllaa.mem

def ldP (g : G) (n : Int) (j : Nat) (m : Int) : Bool := inG n m && g.R m.toNat j

structure LQ (w W : World) (g : G) (n : Int) (fs : List Int) (j : Nat) (A : Option Addr) (c : Nat) (L : List Nat) : Prop where
  sq : Seg W 3 A c (natI L)
  ge : ∀ x ∈ blk A, w.heap.size ≤ x
  on : Below w.heap.size w W
  eq : L = (List.range j).filter fun j => fs.any (ldP g n j)

set_option maxRecDepth 100000 in
theorem rleads_big (n : Int) (hn : 20000 < n) (v u : Value) (w : World) : Calls Try.prog 18 #[.int .i64 n, v, u] w fun e w' => e = .returned (.slice none 0 0) ∧ w = w' := by
  have d0 : decide (20000 < n) = true := decide_eq_true hn
  go_enter Try.func18, Try.ntmps18
  go_wp2_with fail
  go_ret
  exact ⟨rfl, rfl⟩

set_option maxRecDepth 100000 in
set_option maxHeartbeats 2000000 in
theorem rleads_any (n : Int) (hn : n ≤ 100) (A : Option Addr) (cap : Nat) (l : List (Int × Int)) (hl : l.length ≤ 1000) (F : Option Addr) (fc : Nat) (fs : List Int) (hfl : fs.length ≤ 1000) (w : World) (h : Eds w A l) (hF : Rd w F (fs.map (Value.int .i64))) :
    Calls Try.prog 18 #[.int .i64 n, .slice A l.length cap, .slice F fs.length fc] w (LdPost w ((gof n l).leads n fs)) := by
  have KR := Lib.hid (reach_any n hn A cap l hl w h)
  have d0 : decide (20000 < n) = false := decide_eq_false (by omega)
  obtain ⟨m, hm⟩ : ∃ m, Hid ((gof n l).n = m) := ⟨_, Lib.hid rfl⟩
  have hmb : m ≤ 100 := by rw [← hm.out]; show n.toNat ≤ 100; omega
  have hgnn : Hid ((gof n l).n = n.toNat) := Lib.hid rfl
  obtain ⟨q, hq⟩ : ∃ q, Hid (fs.length = q) := ⟨_, Lib.hid rfl⟩
  have hqb : q ≤ 1000 := by rw [← hq.out]; exact hfl
  rw [hq.out]
  have HF := Lib.hid hF
  clear h hF hfl
  generalize gof n l = g at *
  go_enter Try.func18, Try.ntmps18
  go_wp2_with fail
  refine KR.out.mono ?_
  rintro e w1 ⟨mb, bi, he, hM, hB⟩
  rw [hm.out] at he
  subst he
  have HM := Lib.hid hM
  have HB := Lib.hid hB
  have hQ0 : Hid (LQ w1 w1 g n fs 0 none 0 []) := Lib.hid ⟨Seg.nil _ _, fun x hx => (by cases hx), Below.refl _ _, rfl⟩
  clear hM hB KR
  go_wp2_with fail
  go_loopw [8, 9] (fun s i wr => ∃ (j : Nat) (Ao : Option Addr) (co : Nat) (L : List Nat), j ≤ m ∧ L.length ≤ j ∧ i = .int .i64 j ∧ s = .slice Ao L.length co ∧ Hid (LQ w1 wr g n fs j Ao co L)) (fun _ i _ => m - (intOf i).toNat)
  case atStart => exact ⟨0, none, 0, [], by omega, by simp, rfl, rfl, hQ0⟩
  case round =>
    obtain ⟨j, Ao, co, L, hj, hLj, rfl, rfl, hQ⟩ := hrel
    clear hQ0
    rename World => wr
    obtain ⟨nl, hnl⟩ : ∃ nl, Hid (L.length = nl) := ⟨_, Lib.hid rfl⟩
    rw [hnl.out] at hLj ⊢
    by_cases hjm : j < m
    · have d1 : decide ((j : Int) < (m : Int)) = true := decide_eq_true (by omega)
      have hjI : (j : Int) < (m : Int) := by omega
      have hjg : j < g.n := by rw [hm.out]; exact hjm
      have HJG := Lib.hid hjg
      clear hjg
      go_wp2_with fail
      go_loopw [10, 11] (fun s i wx => ∃ k : Nat, k ≤ q ∧ i = .int .i64 k ∧ s = .bool ((fs.take k).any (ldP g n j)) ∧ wr = wx) (fun _ i _ => q - (intOf i).toNat)
      case atStart => exact ⟨0, by omega, rfl, by simp, rfl⟩
      case round =>
        obtain ⟨k, hk, rfl, rfl, rfl⟩ := hrel
        by_cases hkq : k < q
        · have d2 : decide ((k : Int) < (q : Int)) = true := decide_eq_true (by omega)
          have hkI : (k : Int) < (q : Int) := by omega
          have hkl : k < fs.length := by rw [hq.out]; exact hkq
          obtain ⟨fb, fo, rfl, hfb, hfc⟩ := HF.out (by rw [List.length_map]; omega)
          have ck0 := hfc k (by rw [List.length_map]; exact hkl)
          rw [List.getElem_map] at ck0
          have ck : wr.cell? ⟨fb, fo + k, none⟩ = some (.int .i64 fs[k]) := by
            rw [hQ.out.on.cell (p := ⟨fb, fo + k, none⟩) (Nat.lt_of_lt_of_le hfb HB.out.size), HB.out.cell (p := ⟨fb, fo + k, none⟩) hfb]
            exact ck0
          have hts : Hid ((fs.take (k + 1)).any (ldP g n j) = ((fs.take k).any (ldP g n j) || ldP g n j fs[k])) := Lib.hid (by rw [List.take_succ_eq_append_getElem hkl, List.any_append]; simp)
          clear hfc ck0 hfb
          generalize fs[k] = x at *
          clear hkl
          have hmx := HM.out.on hQ.out.on
          generalize (fs.take k).any (ldP g n j) = u at *
          cases u with
          | true =>
            clear hmx
            go_wp2_with fail
            go_roundw
            case rel => exact ⟨k + 1, by omega, by go_num, by rw [hts.out]; rfl, trivial⟩
            case measure => simp [intOf]; omega
          | false =>
            have KA := Lib.hid (fun W => rmember_any n x W)
            cases hx : inG n x with
            | false =>
              rw [hx] at KA
              have hts2 : Hid ((fs.take (k + 1)).any (ldP g n j) = false) := Lib.hid (by rw [hts.out]; simp [ldP, hx])
              clear hmx hx hts
              go_wp2_with fail
              refine (KA.out _).mono ?_
              rintro e w3 ⟨rfl, rfl⟩
              clear KA
              go_wp2_with fail
              go_roundw
              case rel => exact ⟨k + 1, by omega, by go_num, by rw [hts2.out], trivial⟩
              case measure => simp [intOf]; omega
            | true =>
              rw [hx] at KA
              have hx2 := hx
              unfold inG at hx2
              simp only [Bool.and_eq_true, decide_eq_true_eq] at hx2
              obtain ⟨y, rfl⟩ : ∃ y : Nat, x = y := ⟨x.toNat, by omega⟩
              have hyg : y < g.n := by rw [hgnn.out]; omega
              have hym : y < m := by rw [← hm.out]; exact hyg
              have hyI : (y : Int) < (m : Int) := by omega
              have hh := hmx.hd hyg
              have hc := hmx.at_ hyg HJG.out
              rw [hm.out] at hh
              have hts2 : Hid ((fs.take (k + 1)).any (ldP g n j) = g.R y j) := Lib.hid (by rw [hts.out]; simp [ldP, hx])
              clear hmx hx hts hx2 hyg
              generalize g.R y j = v at *
              go_wp2_with fail
              refine (KA.out _).mono ?_
              rintro e w3 ⟨rfl, rfl⟩
              clear KA
              go_wp2_with fail
              go_roundw
              case rel => exact ⟨k + 1, by omega, by go_num, by rw [hts2.out], trivial⟩
              case measure => simp [intOf]; omega
        · obtain rfl : k = q := by omega
          have d2 : decide ((k : Int) < (k : Int)) = false := decide_eq_false (by omega)
          have hfin : Hid ((fs.take k).any (ldP g n j) = fs.any (ldP g n j)) := Lib.hid (by rw [← hq.out, List.take_length])
          have hstep : Hid ((List.range (j + 1)).filter (fun j => fs.any (ldP g n j)) = (List.range j).filter (fun j => fs.any (ldP g n j)) ++ (if fs.any (ldP g n j) then [j] else [])) := Lib.hid (by
            rw [List.range_succ, List.filter_append]
            cases hx : fs.any (ldP g n j) <;> simp [hx])
          rw [hfin.out]
          generalize fs.any (ldP g n j) = u at *
          cases u with
          | false =>
            have hQ2 : Hid (LQ w1 wr g n fs (j + 1) Ao co L) := Lib.hid ⟨hQ.out.sq, hQ.out.ge, hQ.out.on, by rw [hstep.out, ← hQ.out.eq]; simp⟩
            clear hQ hstep
            go_wp2_with fail
            go_roundw
            case rel => exact ⟨j + 1, Ao, co, L, by omega, by rw [hnl.out]; omega, by go_num, by rw [hnl.out], hQ2⟩
            case measure => simp [intOf]; omega
          | true =>
            obtain ⟨i0, hi0, hz0, hz1, hz2⟩ := info_parts info_int
            have Hi := Lib.hid hi0
            have Hz0 := Lib.hid hz0
            have Hz1 := Lib.hid hz1
            have Hz2 := Lib.hid hz2
            have hsg := Lib.hid (hQ.out.sq.alloc (.cells #[.int .i64 (j : Nat)] 3))
            have hlen2 : Hid (nl = (natI L).length) := Lib.hid (by rw [natI_len, hnl.out])
            clear hi0 hz0 hz1 hz2
            go_wp2_with (at_builtin
                         refine wpList_push (u := .int .i64 (j : Nat)) rfl (.tmp 51) (.tmp 53) _ rfl hsg.out hlen2.out Try.underlying32 Hi.out Hz0.out Hz1.out Hz2.out rfl rfl rfl (new_cell _ _ _) rfl (by omega) (by omega) ?_
                         intro A5 c5 w5 hs5 f5 b5
                         have f6 : Fr (blk Ao) wr w5 := ((Fr.refl [] wr).alloc _).trans f5 (by simp) (fun g hg => Or.inl hg)
                         have hQ2 : Hid (LQ w1 w5 g n fs (j + 1) A5 c5 (L ++ [j])) := Lib.hid ⟨by rw [← natI_snoc]; exact hs5, fun x hx => by
                           rcases b5 with e | e
                           · exact hQ.out.ge x (e ▸ hx)
                           · rw [e, List.mem_singleton] at hx
                             subst hx
                             have := hQ.out.on.size
                             simp; omega, hQ.out.on.trans (f6.below hQ.out.ge hQ.out.on.size), by rw [hstep.out, ← hQ.out.eq]; rfl⟩
                         clear hs5 f5 f6 b5)
            go_roundw
            case rel => exact ⟨j + 1, A5, c5, L ++ [j], by omega, by rw [List.length_append, hnl.out]; simp; omega, by go_num, by rw [List.length_append, hnl.out]; rfl, hQ2⟩
            case measure => simp [intOf]; omega
    · obtain rfl : j = m := by omega
      have d1 : decide ((j : Int) < (j : Int)) = false := decide_eq_false (by omega)
      have fin : Hid (LdPost w (g.leads n fs) (.returned (.slice Ao nl co)) wr) := Lib.hid (by
        have hL : L = g.leads n fs := by rw [hQ.out.eq]; unfold G.leads; rw [hm.out]; rfl
        rw [← hL]
        exact ⟨Ao, co, by rw [hnl.out], hQ.out.sq.rd, HB.out.trans (hQ.out.on.mono HB.out.size)⟩)
      clear hQ
      go_wp2_with fail
      go_ret
      exact fin.out
end Go.Proofs.Ytpdidgacmikllaa.tj
