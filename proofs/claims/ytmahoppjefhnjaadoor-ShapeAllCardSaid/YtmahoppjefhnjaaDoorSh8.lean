/-
  Shape: the types right within a type.
-/
import Derived.Test.YtmahoppjefhnjaaDoorSh7
import Derived.Test.YtmahoppjefhnjaaDoorRow
namespace Go.Proofs.YtmahoppjefhnjaaDoor.sh
open Go.RowKit Go.Sort Go.Proofs.YtmahoppjefhnjaaDoor.mem

/-- the types right within a type -/
def withinL (ss : List St) (T : Ty) : List Ty :=
  if T.kind = 4 then T.of else if T.kind = 3 then (match findS ss T.name with | none => [] | some st => st.2.map (·.2)) else []

def WiPost (n : Nat) (L : List Ty) (w : World) (e : Ending) (w' : World) : Prop := ∃ A cap, e = .returned (.slice A L.length cap) ∧ Below w.heap.size w w' ∧ TysAt w' n A L ∧ L.length ≤ 9223372036854775807

theorem wipost {n : Nat} {L M : List Ty} {w w' : World} {A : Option Addr} {cap : Nat} (h : L = M) (hb : Below w.heap.size w w') (ht : TysAt w' n A M) (hm : M.length ≤ 9223372036854775807) : WiPost n L w (.returned (.slice A M.length cap)) w' := by
  subst h
  exact ⟨A, cap, rfl, hb, ht, hm⟩

theorem tys_nil (w : World) (n : Nat) (A : Option Addr) : TysAt w n A [] := ⟨fun h => by simp at h, fun j hj => by simp at hj⟩

/-- a list of types, and all their cells in a row -/
structure TC (w wr : World) (n : Nat) (A : Option Addr) (cap k : Nat) (fs : List Fd) (cs : List Value) : Prop where
  on : Below w.heap.size w wr
  sg : Sg 4 wr 51 A cap k cs
  own : ∀ g ∈ blk A, w.heap.size ≤ g
  ty : ∀ j (hj : j < fs.length), j < k → ∃ c0 c1 c2 c3, cs[j * 4]? = some c0 ∧ cs[j * 4 + 1]? = some c1 ∧ cs[j * 4 + 2]? = some c2 ∧ cs[j * 4 + 3]? = some c3 ∧ TyAt w n fs[j].2 c0 c1 c2 c3

theorem TC.tys {w wr : World} {n : Nat} {A : Option Addr} {cap : Nat} {fs : List Fd} {cs : List Value} (h : TC w wr n A cap fs.length fs cs) : TysAt wr n A (fs.map (·.2)) := by
  have hlen := h.sg.len
  refine ⟨fun hz => ?_, fun j hj b off hA => ?_⟩
  · simp only [List.length_map] at hz
    obtain ⟨g, off, rfl, hl, _⟩ := h.sg.rd (by omega) (by omega)
    exact ⟨g, off, rfl, hl⟩
  · simp only [List.length_map] at hj
    subst hA
    obtain ⟨g, off', hA, hl, hc⟩ := h.sg.rd (by omega) (by omega)
    cases hA
    obtain ⟨c0, c1, c2, c3, k0, k1, k2, k3, hT⟩ := h.ty j hj hj
    have gt : ∀ i v, cs[i]? = some v → wr.cell? ⟨b, off + i, none⟩ = some v := fun i v hv => by
      have hi := (List.getElem?_eq_some_iff.1 hv).1
      rw [hc i hi, ← hv, List.getElem?_eq_getElem hi]
    refine ⟨c0, c1, c2, c3, gt _ _ k0, ?_, ?_, ?_, ?_⟩
    · rw [Nat.add_assoc]; exact gt _ _ k1
    · rw [Nat.add_assoc]; exact gt _ _ k2
    · rw [Nat.add_assoc]; exact gt _ _ k3
    · rw [List.getElem_map]; exact TyAt.kept h.on _ _ _ _ _ _ hT

theorem TC.push {w wr w1 w' : World} {n : Nat} {A A' : Option Addr} {cap cap' k : Nat} {fs : List Fd} {cs : List Value} (h : TC w wr n A cap k fs cs) (hk : k < fs.length) {c0 c1 c2 c3 : Value} (hT : TyAt w n fs[k].2 c0 c1 c2 c3)
    (h1 : Below wr.heap.size wr w1) (hs : Sg 4 w' 51 A' cap' (k + 1) (cs ++ [c0, c1, c2, c3])) (hf : Fr (blk A) w1 w') (hb : blk A' = blk A ∨ blk A' = [w1.heap.size]) : TC w w' n A' cap' (k + 1) fs (cs ++ [c0, c1, c2, c3]) := by
  have hlen := h.sg.len
  have hz := h.on.size
  have hz1 := h1.size
  refine ⟨(h.on.trans (h1.mono hz)).trans (hf.below (fun g hg => h.own g hg) (by omega)), hs, fun g hg => ?_, fun j hj hjk => ?_⟩
  · rcases hb with e | e
    · exact h.own g (e ▸ hg)
    · rw [e, List.mem_singleton] at hg
      subst hg
      omega
  · by_cases hjk2 : j < k
    · obtain ⟨d0, d1, d2, d3, k0, k1, k2, k3, hU⟩ := h.ty j hj hjk2
      have ap : ∀ i v, cs[i]? = some v → (cs ++ [c0, c1, c2, c3])[i]? = some v := fun i v hv => by
        rw [List.getElem?_append_left (List.getElem?_eq_some_iff.1 hv).1]; exact hv
      exact ⟨d0, d1, d2, d3, ap _ _ k0, ap _ _ k1, ap _ _ k2, ap _ _ k3, hU⟩
    · obtain rfl : j = k := by omega
      refine ⟨c0, c1, c2, c3, ?_, ?_, ?_, ?_, hT⟩ <;> rw [List.getElem?_append_right (by omega), hlen]
      · simp
      · simp [show j * 4 + 1 - j * 4 = 1 by omega]
      · simp [show j * 4 + 2 - j * 4 = 2 by omega]
      · simp [show j * 4 + 3 - j * 4 = 3 by omega]

theorem four_cells (w : World) (t : TypeId) (x y z u : Value) : ∀ (j : Nat) (v : Value), [x, y, z, u][j]? = some v → (w.alloc (.cells #[x, y, z, u] t)).cell? ((⟨w.heap.size, 0, none⟩ : Addr).add j) = some v := by
  intro j v h
  have e1 : (⟨w.heap.size, 0, none⟩ : Addr).add j = ⟨w.heap.size, j, none⟩ := by unfold Addr.add; split <;> simp_all
  rw [e1, (Box.new w t #[x, y, z, u]).cell j]
  simpa using h

theorem four_cells1 (w : World) (o : Obj) (t : TypeId) (x y z u : Value) : ∀ (j : Nat) (v : Value), [x, y, z, u][j]? = some v → ((w.alloc o).alloc (.cells #[x, y, z, u] t)).cell? ((⟨w.heap.size + 1, 0, none⟩ : Addr).add j) = some v := by
  have h := four_cells (w.alloc o) t x y z u
  rw [World.size_alloc] at h
  exact h

theorem four_one (k : Int) (s : ByteArray) (z : Int) (A : Option Addr) (n c : Nat) : ∀ u ∈ [Value.int .i64 k, .string s, .int .i64 z, .slice A n c], u.oneCell' = true := by
  intro u hu
  simp only [List.mem_cons, List.not_mem_nil, or_false] at hu
  rcases hu with rfl | rfl | rfl | rfl <;> rfl

theorem info_ty : (Tryd.prog.info? 51).map (fun i => (i.zero, i.size, i.bytes)) = some (some (.agg #[.int .i64 0, .string ByteArray.empty, .int .i64 0, .slice none 0 0]), 4, 56) := by kernel_rfl

set_option maxRecDepth 100000 in
set_option maxHeartbeats 1000000 in
theorem within_any (w : World) (n q : Nat) (A : Option Addr) (cap : Nat) (ss : List St) (hss : SsAt w n A ss) (hm : ss.length ≤ 9223372036854775807) (T : Ty) (v0 v1 v2 v3 : Value) (ht : TyAt w q T v0 v1 v2 v3) (hq : q ≤ n) (hfew : ∀ st ∈ ss, st.2.length ≤ 1000) :
    Calls Tryd.prog 58 #[.slice A ss.length cap, .agg #[v0, v1, v2, v3]] w (WiPost n (withinL ss T) w) := by
  have KF := Lib.hid (fun w' (hb : Below w.heap.size w w') => find_any w' n A cap ss T.name (hss.kept hb) hm)
  have BX := Lib.hid (fun o => (Below.refl w.heap.size w).alloc (Nat.le_refl _) o)
  obtain ⟨L, hL⟩ : ∃ L, withinL ss T = L := ⟨_, rfl⟩
  rw [hL]
  unfold withinL at hL
  have HL := Lib.hid hL.symm
  clear hL
  cases q with
  | zero => exact ht.elim
  | succ q =>
  obtain ⟨rfl, _, rfl, _, rfl, _, A2, cap2, rfl, hl, h8, h9⟩ := ht
  have HO : Hid (∀ o, TysAt (w.alloc o) n A2 T.of) := Lib.hid (fun o => by
    have h : TysAt w q A2 T.of := ⟨h8, h9⟩
    have h2 := h.kept (BX.out o)
    exact ⟨h2.1, fun j hj b off hA => by
      obtain ⟨c0, c1, c2, c3, k0, k1, k2, k3, hT⟩ := h2.2 j hj b off hA
      exact ⟨c0, c1, c2, c3, k0, k1, k2, k3, TyAt.more _ _ _ _ _ _ hT n (by omega)⟩⟩)
  clear h8 h9
  obtain ⟨k, name, num, of⟩ := T
  simp only [Ty.kind, Ty.name, Ty.num, Ty.of] at *
  by_cases c1 : k = 4
  · subst c1
    have hr := Lib.hid (HL.out.trans (if_pos rfl))
    clear KF HL
    go_enter Tryd.func58, Tryd.ntmps58
    go_wp2_with fail
    go_ret
    exact wipost hr.out (BX.out _) (HO.out _) hl
  have HL := Lib.hid (HL.out.trans (if_neg c1))
  have d1 : (k == 4) = false := by simpa using c1
  by_cases c2 : k = 3
  · subst c2
    have HL := Lib.hid (HL.out.trans (if_pos rfl))
    clear HO
    obtain ⟨i0, hi0, hz0, hz1, hz2⟩ := info_parts info_ty
    have Hi := Lib.hid hi0
    have Hz0 := Lib.hid hz0
    have Hz1 := Lib.hid hz1
    have Hz2 := Lib.hid hz2
    clear hi0 hz0 hz1 hz2
    go_enter Tryd.func58, Tryd.ntmps58
    go_wp2_with fail
    refine (KF.out _ (BX.out _)).mono ?_
    rintro e w2 ⟨b2, ⟨st, B, c, hst, rfl, hfl, hfs⟩ | ⟨hst, rfl⟩⟩
    · have HLz := HL.out
      rw [hst] at HLz
      simp only at HLz
      have B01 := Lib.hid (BX.out (.cells #[.int .i64 3, .string name, .int .i64 num, .slice A2 of.length cap2] 51))
      have hmem : st.2.length ≤ 1000 := hfew st (List.mem_of_find?_eq_some hst)
      have HLY : Hid (L = st.2.map (·.2)) := Lib.hid HLz
      clear KF hst BX HLz HL
      generalize (w.alloc (.cells #[.int .i64 3, .string name, .int .i64 num, .slice A2 of.length cap2] 51)) = w1 at *
      have HF := Lib.hid hfs
      have T0 : Hid (∀ o, TC w1 (w2.alloc o) n none 0 0 st.2 []) := Lib.hid (fun o => ⟨b2.alloc b2.size o, Sg.new 4 _ _, by simp [blk], fun j hj h => by omega⟩)
      clear b2 hfs
      obtain ⟨nm, fs⟩ := st
      simp only at HLY hfl hmem HF T0
      go_wp2_with fail
      go_loopw [7, 28] (fun ts i wr => ∃ (k : Nat) (A' : Option Addr) (cap' : Nat) (cs : List Value), k ≤ fs.length ∧ ts = .slice A' k cap' ∧ i = .int .i64 k ∧ Hid (TC w1 wr n A' cap' k fs cs)) (fun _ i _ => fs.length - (intOf i).toNat)
      case atStart => exact ⟨0, none, 0, [], by omega, rfl, rfl, T0.out _⟩
      case round =>
        obtain ⟨k, A', cap', cs, hk, rfl, rfl, ht⟩ := hrel
        rename_i wr _
        by_cases hkl : k < fs.length
        · have e1 : decide ((k : Int) < (fs.length : Int)) = true := decide_eq_true (by omega)
          obtain ⟨b, off, rfl, hbl⟩ := HF.out.1 (by omega)
          obtain ⟨c0, c1, c2, c3, j, j0, j1, j2, j3, hT⟩ := HF.out.2 k hkl b off rfl
          have on := ht.out.on
          have k' : wr.cell? ⟨b, off + k * 5, none⟩ = some (.string fs[k].1) := (on.cell (p := ⟨b, off + k * 5, none⟩) hbl).trans j
          have k0 : wr.cell? ⟨b, off + k * 5 + 1, none⟩ = some c0 := (on.cell (p := ⟨b, off + k * 5 + 1, none⟩) hbl).trans j0
          have k1 : wr.cell? ⟨b, off + k * 5 + 2, none⟩ = some c1 := (on.cell (p := ⟨b, off + k * 5 + 2, none⟩) hbl).trans j1
          have k2 : wr.cell? ⟨b, off + k * 5 + 3, none⟩ = some c2 := (on.cell (p := ⟨b, off + k * 5 + 3, none⟩) hbl).trans j2
          have k3 : wr.cell? ⟨b, off + k * 5 + 4, none⟩ = some c3 := (on.cell (p := ⟨b, off + k * 5 + 4, none⟩) hbl).trans j3
          have PU := Lib.hid (fun (w3 w' : World) A2 cap2 (h1 : Below wr.heap.size wr w3) (hs : Sg 4 w' 51 A2 cap2 (k + 1) (cs ++ [c0, c1, c2, c3])) (hf : Fr (blk A') w3 w') (hb : blk A2 = blk A' ∨ blk A2 = [w3.heap.size]) => ht.out.push hkl hT h1 hs hf hb)
          have SG := Lib.hid ht.out.sg
          have WB := Lib.hid (fun o1 o2 => ((Below.refl wr.heap.size wr).alloc (Nat.le_refl _) o1).alloc (by simp) o2)
          clear on ht j j0 j1 j2 j3
          generalize fs[k] = f at *
          obtain ⟨fnm, E⟩ := f
          simp only at k' hT PU
          cases n with
          | zero => exact hT.elim
          | succ n =>
          obtain ⟨rfl, _, rfl, _, rfl, _, A3, cap3, rfl, _, _, _⟩ := hT
          go_wp2_with (at_builtin
                       refine wpList_row (us := [.int .i64 E.kind, .string E.name, .int .i64 E.num, .slice A3 E.of.length cap3]) rfl _ _ _ rfl ((SG.out.alloc _).alloc _) Tryd.underlying49 Hi.out Hz0.out Hz1.out Hz2.out rfl rfl rfl rfl (four_cells1 wr _ _ _ _ _ _) (four_one _ _ _ _ _ _) (by omega) (by omega) ?_
                       intro A5 cap5 w5 hs5 b5 hf5
                       have T5 := Lib.hid (PU.out _ w5 A5 cap5 (WB.out _ _) hs5 b5 hf5)
                       clear hs5 b5 hf5)
          go_roundw
          case rel => exact ⟨k + 1, A5, cap5, _, by omega, rfl, by go_num, T5⟩
          case measure => simp [intOf]; omega
        · obtain rfl : k = fs.length := by omega
          have e1 : decide ((fs.length : Int) < (fs.length : Int)) = false := decide_eq_false (by omega)
          have hb := Lib.hid (B01.out.trans (ht.out.on.mono B01.out.size))
          have htys := Lib.hid ht.out.tys
          go_wp2_with fail
          go_ret
          have := wipost (cap := cap') HLY.out hb.out htys.out (by rw [List.length_map]; omega)
          rw [List.length_map] at this
          exact this
    · have HL := HL.out
      rw [hst] at HL
      simp only at HL
      have HB2 := Lib.hid ((BX.out _).trans (b2.mono (by simp)))
      have HB3 : Hid (∀ o, Below w.heap.size w (w2.alloc o)) := Lib.hid (fun o => HB2.out.alloc HB2.out.size o)
      have HL := Lib.hid HL
      clear b2 KF hst
      go_wp2_with fail
      go_loopw [7, 28] (fun ts i wr => ts = .slice none 0 0 ∧ i = .int .i64 0 ∧ Hid (Below w.heap.size w wr)) (fun _ _ _ => 0)
      case atStart => exact ⟨rfl, rfl, Lib.hid (HB3.out _)⟩
      case round =>
        obtain ⟨rfl, rfl, hb⟩ := hrel
        go_wp2_with fail
        go_ret
        exact wipost (M := []) HL.out hb.out (tys_nil _ _ _) (by simp)
  · have hr := Lib.hid (HL.out.trans (if_neg c2))
    have d2 : (k == 3) = false := by simpa using c2
    clear KF HL
    go_enter Tryd.func58, Tryd.ntmps58
    go_wp2_with fail
    go_ret
    exact wipost (M := []) hr.out (BX.out _) (tys_nil _ _ _) (by simp)
end Go.Proofs.YtmahoppjefhnjaaDoor.sh
