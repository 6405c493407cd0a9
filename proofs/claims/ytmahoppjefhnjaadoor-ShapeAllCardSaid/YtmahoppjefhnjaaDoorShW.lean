/-
  Shape: are structs and a type too great to be asked?
-/
import Derived.Test.YtmahoppjefhnjaaDoorSh2
import Derived.Test.YtmahoppjefhnjaaDoorShC
namespace Go.Proofs.YtmahoppjefhnjaaDoor.sh
open Go.RowKit Go.Sort Go.Proofs.YtmahoppjefhnjaaDoor.mem

def fdB (fd : Fd) : Bool := decide (100 < fd.1.size) || deepB 8 fd.2
def stB (st : St) : Bool := (decide (100 < st.1.size) || decide (20 < st.2.length)) || st.2.any fdB
def greatB (ss : List St) (T : Ty) : Bool := (decide (30 < ss.length) || deepB 8 T) || ss.any stB

def GrPost (b : Bool) (w : World) (e : Ending) (w' : World) : Prop := e = .returned (.bool b) ∧ Below w.heap.size w w'
theorem grpost {b d : Bool} {w w' : World} (h : b = d) (hb : Below w.heap.size w w') : GrPost b w (.returned (.bool d)) w' := ⟨by rw [h], hb⟩

theorem any_hit {α : Type} {p : α → Bool} {l : List α} {k : Nat} (hk : k < l.length) (h : p l[k] = true) : l.any p = true := List.any_eq_true.2 ⟨_, List.getElem_mem hk, h⟩

set_option maxRecDepth 100000 in
set_option maxHeartbeats 1000000 in
theorem great_any (w : World) (n q : Nat) (A : Option Addr) (cap : Nat) (ss : List St) (hss : SsAt w n A ss) (hm : ss.length ≤ 9223372036854775807) (T : Ty) (v0 v1 v2 v3 : Value) (ht : TyAt w q T v0 v1 v2 v3) :
    Calls Tryd.prog 25 #[.slice A ss.length cap, .agg #[v0, v1, v2, v3]] w (GrPost (greatB ss T) w) := by
  have Hd := Lib.hid (fun wr h => deep_any 8 T q v0 v1 v2 v3 wr (by omega) h)
  cases q with
  | zero => exact ht.elim
  | succ q =>
  have ht2 := Lib.hid (fun o => TyAt.kept ((Below.refl w.heap.size w).alloc (Nat.le_refl _) o) _ _ _ _ _ _ ht)
  have B0 := Lib.hid (fun o => (Below.refl w.heap.size w).alloc (Nat.le_refl _) o)
  obtain ⟨rfl, w0, rfl, w1, rfl, w2, A2, cap2, rfl, h7, h8, h9⟩ := ht
  clear h8 h9
  obtain ⟨R, hR⟩ : ∃ R, greatB ss T = R := ⟨_, rfl⟩
  rw [hR]
  unfold greatB at hR
  have HR := Lib.hid hR.symm
  clear hR
  by_cases hl : 30 < ss.length
  · have e1 : decide ((30 : Int) < (ss.length : Int)) = true := decide_eq_true (by omega)
    have hr := Lib.hid (HR.out.trans (show _ = true by simp [hl]))
    clear HR Hd
    go_enter Tryd.func25, Tryd.ntmps25
    go_wp2_with fail
    go_ret
    exact grpost hr.out (B0.out _)
  have e1 : decide ((30 : Int) < (ss.length : Int)) = false := decide_eq_false (by omega)
  have HR := Lib.hid (HR.out.trans (show _ = (deepB 8 T || ss.any stB) by simp [hl]))
  cases hd : deepB 8 T with
  | true =>
    have hr := Lib.hid (HR.out.trans (show _ = true by simp [hd]))
    rw [hd] at Hd
    clear HR hd
    go_enter Tryd.func25, Tryd.ntmps25
    go_wp2_with fail
    refine (Hd.out _ (ht2.out _)).mono ?_
    rintro e w2 ⟨rfl, hb⟩
    have hb2 := Lib.hid ((B0.out _).trans (hb.mono (B0.out _).size))
    clear hb
    go_wp2_with fail
    go_ret
    exact grpost hr.out hb2.out
  | false =>
    have HR := Lib.hid (HR.out.trans (show _ = ss.any stB by simp [hd]))
    rw [hd] at Hd
    have HS := Lib.hid hss
    have DP := Lib.hid (fun (T : Ty) (m : Nat) (v0 v1 v2 v3 : Value) (w : World) (h : TyAt w m T v0 v1 v2 v3) => deep_any 8 T m v0 v1 v2 v3 w (by omega) h)
    clear hd hss
    go_enter Tryd.func25, Tryd.ntmps25
    go_wp2_with fail
    refine (Hd.out _ (ht2.out _)).mono ?_
    rintro e w2 ⟨rfl, hb⟩
    have hb2 := Lib.hid ((B0.out _).trans (hb.mono (B0.out _).size))
    clear hb Hd ht2 B0
    go_wp2_with fail
    go_loopw [5] (fun i wr => ∃ k : Nat, k ≤ ss.length ∧ i = .int .i64 k ∧ Hid ((ss.take k).any stB = false) ∧ Hid (Below w.heap.size w wr)) (fun i _ => ss.length - (intOf i).toNat)
    case atStart => exact ⟨0, by omega, rfl, Lib.hid (by simp), hb2⟩
    case round =>
      obtain ⟨k, hk, rfl, ha, hr⟩ := hrel
      rename_i wr _
      by_cases hkl : k < ss.length
      · have d3 : decide ((k : Int) < (ss.length : Int)) = true := decide_eq_true (by omega)
        obtain ⟨b, off, rfl, hlw⟩ := HS.out.1 (by omega)
        obtain ⟨B, cap', k0, k1, hfl, hF⟩ := HS.out.2 k hkl b off rfl
        have step := Lib.hid (any_take_succ stB ss k hkl ha.out)
        have hit := Lib.hid (fun h : stB ss[k] = true => any_hit hkl h)
        have J := Lib.hid (fun (wx : World) (hb : Below w.heap.size w wx) => And.intro ((hb.cell (p := ⟨b, off + k * 2, none⟩) hlw).trans k0) ((hb.cell (p := ⟨b, off + k * 2 + 1, none⟩) hlw).trans k1))
        have HF := Lib.hid hF
        clear k0 k1 hF ha
        generalize ss[k] = st at *
        obtain ⟨nm, fs⟩ := st
        simp only at hfl
        have J2 : Hid (∀ wx, Below w.heap.size w wx → wx.cell? ⟨b, off + k * 2, none⟩ = some (.string nm) ∧ wx.cell? ⟨b, off + k * 2 + 1, none⟩ = some (.slice B fs.length cap')) := J
        have HF2 : Hid (FsAt w n B fs) := HF
        clear J HF
        obtain ⟨j0, j1⟩ := J2.out wr hr.out
        by_cases hn : 100 < nm.size
        · have f1 : decide ((100 : Int) < (nm.size : Int)) = true := decide_eq_true (by omega)
          have hrr := Lib.hid (HR.out.trans (hit.out (by simp [stB, hn])))
          clear HR step hit
          go_wp2_with fail
          go_ret
          exact grpost hrr.out hr.out
        have f1 : decide ((100 : Int) < (nm.size : Int)) = false := decide_eq_false (by omega)
        by_cases hfn : 20 < fs.length
        · have f2 : decide ((20 : Int) < (fs.length : Int)) = true := decide_eq_true (by omega)
          have hrr := Lib.hid (HR.out.trans (hit.out (by simp [stB, hfn])))
          clear HR step hit
          go_wp2_with fail
          go_ret
          exact grpost hrr.out hr.out
        have f2 : decide ((20 : Int) < (fs.length : Int)) = false := decide_eq_false (by omega)
        have hst : stB (nm, fs) = fs.any fdB := by simp [stB, hn, hfn]
        have stepF := Lib.hid (step.out.trans hst)
        have hitF := Lib.hid (fun h : fs.any fdB = true => hit.out (hst.trans h))
        clear hst hn hfn step hit
        go_wp2_with fail
        go_loopw [6] (fun i wx => ∃ m : Nat, m ≤ fs.length ∧ i = .int .i64 m ∧ Hid ((fs.take m).any fdB = false) ∧ Hid (Below w.heap.size w wx)) (fun i _ => fs.length - (intOf i).toNat)
        case atStart => exact ⟨0, by omega, rfl, Lib.hid (by simp), hr⟩
        case round =>
          obtain ⟨m, hmm, rfl, ha, hx⟩ := hrel
          obtain ⟨i0, i1⟩ := J2.out _ hx.out
          by_cases hml : m < fs.length
          · have d4 : decide ((m : Int) < (fs.length : Int)) = true := decide_eq_true (by omega)
            obtain ⟨fb, fo, rfl, hfb⟩ := HF2.out.1 (by omega)
            obtain ⟨c0, c1, c2, c3, x, x0, x1, x2, x3, hT⟩ := HF2.out.2 m hml fb fo rfl
            have step2 := Lib.hid (any_take_succ fdB fs m hml ha.out)
            have hit2 := Lib.hid (fun h : fdB fs[m] = true => hitF.out (any_hit hml h))
            have y := (hx.out.cell (p := ⟨fb, fo + m * 5, none⟩) hfb).trans x
            have y0 := (hx.out.cell (p := ⟨fb, fo + m * 5 + 1, none⟩) hfb).trans x0
            have y1 := (hx.out.cell (p := ⟨fb, fo + m * 5 + 2, none⟩) hfb).trans x1
            have y2 := (hx.out.cell (p := ⟨fb, fo + m * 5 + 3, none⟩) hfb).trans x2
            have y3 := (hx.out.cell (p := ⟨fb, fo + m * 5 + 4, none⟩) hfb).trans x3
            have HT := Lib.hid (hT.kept hx.out)
            clear x x0 x1 x2 x3 ha
            generalize fs[m] = fd at *
            obtain ⟨fnm, E⟩ := fd
            simp only at y HT hT
            cases n with
            | zero => exact hT.elim
            | succ n =>
            obtain ⟨rfl, _, rfl, _, rfl, _, A3, cap3, rfl, _, _, _⟩ := hT
            by_cases hn : 100 < fnm.size
            · have f3 : decide ((100 : Int) < (fnm.size : Int)) = true := decide_eq_true (by omega)
              have hrr := Lib.hid (HR.out.trans (hit2.out (by simp [fdB, hn])))
              clear HR stepF hitF step2 hit2
              go_wp2_with fail
              go_ret
              exact grpost hrr.out hx.out
            have f3 : decide ((100 : Int) < (fnm.size : Int)) = false := decide_eq_false (by omega)
            have DE := Lib.hid (DP.out E _ _ _ _ _ _ HT.out)
            cases hde : deepB 8 E with
            | true =>
              have hrr := Lib.hid (HR.out.trans (hit2.out (by simp [fdB, hde])))
              rw [hde] at DE
              clear HR stepF hitF step2 hit2 hde
              go_wp2_with fail
              refine DE.out.mono ?_
              rintro e w4 ⟨rfl, b4⟩
              have HB := Lib.hid (hx.out.trans (b4.mono hx.out.size))
              clear b4
              go_wp2_with fail
              go_ret
              exact grpost hrr.out HB.out
            | false =>
              have hs2 := Lib.hid (step2.out.trans (show fdB (fnm, E) = false by simp [fdB, hn, hde]))
              rw [hde] at DE
              clear hitF hit2 step2 hde
              go_wp2_with fail
              refine DE.out.mono ?_
              rintro e w4 ⟨rfl, b4⟩
              have HB := Lib.hid (hx.out.trans (b4.mono hx.out.size))
              clear b4 DE
              go_wp2_with fail
              go_roundw
              case rel => exact ⟨m + 1, by omega, by go_num, hs2, HB⟩
              case measure => simp [intOf]; omega
          · obtain rfl : m = fs.length := by omega
            have d4 : decide ((fs.length : Int) < (fs.length : Int)) = false := decide_eq_false (by omega)
            have hall := Lib.hid (stepF.out.trans (show fs.any fdB = false by have := ha.out; rwa [List.take_length] at this))
            clear hitF stepF
            go_wp2_with fail
            go_roundw
            case rel => exact ⟨k + 1, by omega, by go_num, hall, hx⟩
            case measure => simp [intOf]; omega
      · obtain rfl : k = ss.length := by omega
        have d3 : decide ((ss.length : Int) < (ss.length : Int)) = false := decide_eq_false (by omega)
        have hrr := Lib.hid (HR.out.trans (show ss.any stB = false by have := ha.out; rwa [List.take_length] at this))
        go_wp2_with fail
        go_ret
        exact grpost hrr.out hr.out

/-- what it says where they are not too great -/
theorem great_ok {ss : List St} {T : Ty} (h : greatB ss T = false) : ss.length ≤ 30 ∧ deepB 8 T = false ∧ (∀ st ∈ ss, st.2.length ≤ 1000) ∧ ∀ st ∈ ss, ∀ fd ∈ st.2, deepB 8 fd.2 = false := by
  unfold greatB at h
  simp only [Bool.or_eq_false_iff, decide_eq_false_iff_not, List.any_eq_false] at h
  obtain ⟨⟨h1, h2⟩, h3⟩ := h
  refine ⟨by omega, h2, fun st hst => ?_, fun st hst fd hfd => ?_⟩
  · have := h3 st hst
    unfold stB at this
    simp only [Bool.or_eq_true, decide_eq_true_eq, not_or] at this
    omega
  · have := h3 st hst
    unfold stB at this
    simp only [Bool.or_eq_true, not_or, List.any_eq_true, not_exists, not_and] at this
    have h4 := this.2 fd hfd
    unfold fdB at h4
    simp only [Bool.or_eq_true, not_or] at h4
    simpa using h4.2
end Go.Proofs.YtmahoppjefhnjaaDoor.sh
