import Derived.Test.YtdmmkjijgoiecaaGreatDoorV22
import Derived.Test.YtdmmkjijgoiecaaGreatDoorV24
import Derived.Test.YtdmmkjijgoiecaaGreatDoorV16
import Derived.BigQuiet
import Derived.Deep.QuietTactic
/-
  system: all cells of some kinds, of all objects: the program's.
-/
set_option linter.all false
namespace Go.Proofs.YtdmmkjijgoiecaaGreatDoor.sy
open Go.RowKit Go.Proofs.YtdmmkjijgoiecaaGreatDoor.mem
open Go.Proofs.YtdmmkjijgoiecaaGreatDoor.nm (Tab tab_below cellTS StrPost held)

/-- a list of texts of the call's own -/
structure TL (w wr : World) (A : Option Addr) (cap : Nat) (l : List ByteArray) : Prop where
  seg : Seg wr 9 A cap (l.map Value.string)
  fr : Below w.heap.size w wr
  own : ∀ q ∈ blk A, w.heap.size ≤ q

theorem TL.nil {w wr : World} (h : Below w.heap.size w wr) : TL w wr none 0 [] := ⟨Seg.nil _ _, h, fun q hq => by cases hq⟩
theorem TL.on {w wr w2 : World} {A : Option Addr} {cap : Nat} {l : List ByteArray} (h : TL w wr A cap l) (hb : Below wr.heap.size wr w2) : TL w w2 A cap l := ⟨h.seg.kept (Fr.of_below hb []) (by simp), h.fr.trans (hb.mono h.fr.size), h.own⟩
theorem TL.push {w wr w2 : World} {A A2 : Option Addr} {cap cap2 : Nat} {l : List ByteArray} {s : ByteArray} {o : Obj} (h : TL w wr A cap l) (hs : Seg w2 9 A2 cap2 (l.map Value.string ++ [.string s])) (f : Fr (blk A) (wr.alloc o) w2) (hb : blk A2 = blk A ∨ blk A2 = [(wr.alloc o).heap.size]) : TL w w2 A2 cap2 (l ++ [s]) := by
  have f2 : Fr (blk A) wr w2 := ((Fr.refl [] wr).alloc o).trans f (fun g hg => (by cases hg)) (fun g hg => Or.inl hg)
  refine ⟨by simpa using hs, h.fr.trans (f2.below (fun g hg => h.own g hg) h.fr.size), fun q hq => ?_⟩
  rcases hb with e | e
  · exact h.own q (e ▸ hq)
  · rw [e, List.mem_singleton] at hq
    have := h.fr.size
    subst hq
    simp
    omega

def LPost (w : World) (l : List ByteArray) (e : Ending) (w' : World) : Prop := ∃ A cap, e = .returned (.slice A l.length cap) ∧ TL w w' A cap l

/-- an object's cells of some kinds -/
def cellsB (name : ByteArray) (p : UInt8 → Bool) : Nat → List UInt8 → List ByteArray
  | _, [] => []
  | j, b :: r => (if p b = true then [cellTS name (j : Int)] else []) ++ cellsB name p (j + 1) r
theorem cellsB_snoc (name : ByteArray) (p : UInt8 → Bool) : ∀ (l : List UInt8) (j : Nat) (b : UInt8), cellsB name p j (l ++ [b]) = cellsB name p j l ++ (if p b = true then [cellTS name ((j + l.length : Nat) : Int)] else [])
  | [], j, b => by simp [cellsB]
  | a :: r, j, b => by
    rw [List.cons_append, cellsB, cellsB, cellsB_snoc name p r (j + 1) b, List.append_assoc, List.length_cons, show j + 1 + r.length = j + (r.length + 1) by omega]
theorem cellsB_take {name : ByteArray} {p : UInt8 → Bool} {s : ByteArray} {i : Nat} (hi : i < s.size) : cellsB name p 0 (s.data.toList.take (i + 1)) = cellsB name p 0 (s.data.toList.take i) ++ (if p s[i] = true then [cellTS name (i : Int)] else []) := by
  rw [List.take_succ_eq_append_getElem (by rw [← Lib.size_eq]; exact hi), cellsB_snoc, List.length_take, Nat.min_eq_left (by rw [← Lib.size_eq]; omega), Nat.zero_add]
  simp
  rfl
theorem cellsB_len (name : ByteArray) (p : UInt8 → Bool) : ∀ (l : List UInt8) (j : Nat), (cellsB name p j l).length ≤ l.length
  | [], _ => by simp [cellsB]
  | b :: r, j => by
    have := cellsB_len name p r (j + 1)
    unfold cellsB
    rw [List.length_append, List.length_cons]
    split <;> simp <;> omega

def cellsL (p : UInt8 → Bool) (l : List SO) : List ByteArray := l.flatMap fun o => cellsB o.name p 0 o.kinds.data.toList
theorem cellsL_take {p : UInt8 → Bool} {l : List SO} {k : Nat} (hk : k < l.length) : cellsL p (l.take (k + 1)) = cellsL p (l.take k) ++ cellsB l[k].name p 0 l[k].kinds.data.toList := by
  unfold cellsL
  rw [List.take_succ_eq_append_getElem hk, List.flatMap_append]
  simp
theorem cellsL_len {p : UInt8 → Bool} : ∀ {l : List SO}, (∀ o ∈ l, o.kinds.size ≤ 64) → (cellsL p l).length ≤ l.length * 64
  | [], _ => by simp [cellsL]
  | o :: r, h => by
    have h1 := cellsL_len (p := p) (l := r) (fun x hx => h x (List.mem_cons_of_mem _ hx))
    have h2 := cellsB_len o.name p o.kinds.data.toList 0
    have h3 := h o List.mem_cons_self
    rw [Lib.size_eq] at h3
    unfold cellsL at h1 ⊢
    rw [List.flatMap_cons, List.length_append, List.length_cons]
    omega

def inB (q : ByteArray) (b : UInt8) : Bool := decide (0 ≤ Lib.indexByte q.data.toList b)

theorem byte_back (b : UInt8) : (b.toNat : Int).toNat.toUInt8 = b := by
  rw [Int.toNat_natCast]
  exact UInt8.ofNat_toNat

set_option maxHeartbeats 4000000 in
set_option maxRecDepth 100000 in
theorem cells_any (s : MS) (q : ByteArray) (w : World) (hs : SysM w s) (htab : Tab w) (ho : s.os.length ≤ 600) (hk : ∀ x ∈ s.os, x.o.kinds.size ≤ 64) : Calls Tryz.prog 125 #[s.val, .string q] w (LPost w (cellsL (inB q) (s.os.map (·.o)))) := by
  have HO := Lib.hid (fun W (hb : Below w.heap.size w W) => hs.o.below hb)
  have HN : Hid (∀ W, Below w.heap.size w W → ∀ x ∈ s.os, ∀ i : Int, Calls Tryz.prog 186 #[.string x.o.name, .int .i64 i] W (StrPost (cellTS x.o.name i) W)) := Lib.hid (fun W hb x hx i => nm.cell_any held x.o.name i W (hs.ok x hx).n (tab_below htab hb))
  have HI : Hid (∀ (b : UInt8) W, Calls Tryz.prog 185 #[.string q, .int .u8 (b.toNat : Int)] W fun e w' => e = .returned (.int .i64 (Lib.indexByte q.data.toList b)) ∧ w' = W) := Lib.hid (fun b W => by
    have h := Tryz.strings_IndexByte q (b.toNat : Int) W
    rw [byte_back] at h
    exact h)
  have HKs := Lib.hid hk
  unfold StrPost at HN
  obtain ⟨i0, hi0, hz0, hz1, hz2⟩ := info_parts tx.info_str
  have Hi := Lib.hid hi0
  have Hz0 := Lib.hid hz0
  have Hz1 := Lib.hid hz1
  have Hz2 := Lib.hid hz2
  clear hs htab hi0 hz0 hz1 hz2 hk
  obtain ⟨oA, oc, os, fA, fc, fs, cA, cc, cs⟩ := s
  unfold MS.val
  dsimp only at *
  obtain ⟨no, hNo⟩ : ∃ n, Hid (n = os.length) := ⟨_, Lib.hid rfl⟩
  rw [← hNo.out] at ho ⊢
  obtain ⟨L, hL⟩ : ∃ L, Hid (L = os.map (·.o)) := ⟨_, Lib.hid rfl⟩
  have hLn : Hid (L.length = no) := Lib.hid (by rw [hL.out, List.length_map]; exact hNo.out.symm)
  have hLk : Hid (∀ o ∈ L, o.kinds.size ≤ 64) := Lib.hid (fun o ho => by
    rw [hL.out] at ho
    obtain ⟨x, hx, rfl⟩ := List.mem_map.1 ho
    exact HKs.out x hx)
  rw [← hL.out]
  unfold LPost
  go_enter Tryz.func125, Tryz.ntmps125
  have hnil : Hid (TL w (w.alloc (.cells #[.slice oA no oc, .slice fA fs.length fc, .slice cA cs.length cc] 27)) none 0 (cellsL (inB q) (L.take 0))) := Lib.hid (TL.nil ((Fr.refl [] w).alloc _).all)
  go_wp2_with fail
  go_loopw [5, 12] (fun v i wr => ∃ (k : Nat) (A : Option Addr) (cap : Nat), k ≤ no ∧ i = .int .i64 k ∧ v = .slice A (cellsL (inB q) (L.take k)).length cap ∧ Hid (TL w wr A cap (cellsL (inB q) (L.take k)))) (fun _ i _ => no - (intOf i).toNat)
  case atStart => exact ⟨0, none, 0, by omega, rfl, rfl, hnil⟩
  case round =>
    obtain ⟨k, A, cap, hk, rfl, rfl, HT⟩ := hrel
    clear hnil
    rename World => wr
    by_cases hkl : k < no
    · have e1 : decide ((k : Int) < (no : Int)) = true := decide_eq_true (by omega)
      have hkx : k < os.length := by rw [← hNo.out]; exact hkl
      have hkL : k < L.length := by rw [hLn.out]; exact hkl
      obtain ⟨g, off, rfl, hg, c0, c1, c2⟩ := tbl_obj (HO.out wr HT.out.fr) hkx
      have hlen := cellsL_len (p := inB q) (l := L.take k) (fun o ho => hLk.out o (List.mem_of_mem_take ho))
      rw [List.length_take, Nat.min_eq_left (by omega)] at hlen
      have hlen2 : (cellsL (inB q) (L.take k)).length ≤ 40000 := by omega
      have hLe : Hid (L[k] = os[k].o) := Lib.hid (by
        have e : L[k]? = some os[k].o := by rw [hL.out, List.getElem?_map, List.getElem?_eq_getElem hkx]; rfl
        rw [List.getElem?_eq_getElem hkL] at e
        exact Option.some.inj e)
      have hnext := Lib.hid (cellsL_take (p := inB q) hkL)
      rw [hLe.out] at hnext
      have hks := HKs.out os[k] (List.getElem_mem hkx)
      have HNk := Lib.hid (fun W hb i => HN.out W hb os[k] (List.getElem_mem hkx) i)
      clear hlen hLe
      obtain ⟨l2, hl2⟩ : ∃ l, Hid (l = cellsL (inB q) (L.take (k + 1))) := ⟨_, Lib.hid rfl⟩
      rw [← hl2.out] at hnext
      generalize cellsL (inB q) (L.take k) = l1 at *
      generalize os[k] = x at *
      obtain ⟨⟨xn, xk, xm⟩, xA, xc⟩ := x
      dsimp only at *
      have HT1 := Lib.hid (HT.out.on ((Fr.refl [] wr).alloc (.cells #[.string xn, .string xk, .slice xA xm.length xc] 99)).all)
      have HB1 := Lib.hid (Box.new wr 99 #[.string xn, .string xk, .slice xA xm.length xc])
      have hlt := Lib.hid HT.out.fr.size
      go_wp2_with fail
      generalize hW : wr.alloc (.cells #[.string xn, .string xk, .slice xA xm.length xc] 99) = W at *
      have hbm := hlt
      clear hW c0 c1 c2 hlt HT
      generalize wr.heap.size = bm at *
      have hl0 : Hid (l1 = l1 ++ cellsB xn (inB q) 0 (xk.data.toList.take 0)) := Lib.hid (by simp [cellsB])
      have HT2 : Hid (TL w W A cap (l1 ++ cellsB xn (inB q) 0 (xk.data.toList.take 0))) := Lib.hid (by rw [← hl0.out]; exact HT1.out)
      have b1 := HB1.out.cell 1
      simp only [List.getElem?_toArray, List.getElem?_cons_zero, List.getElem?_cons_succ] at b1
      have hln : Hid (l1.length = (l1 ++ cellsB xn (inB q) 0 (xk.data.toList.take 0)).length) := Lib.hid (congrArg List.length hl0.out)
      go_wp2_with fail
      clear b1 HT1
      go_loopw [5, 19] (fun v i wx => ∃ (j : Nat) (A : Option Addr) (cap : Nat), j ≤ xk.size ∧ i = .int .i64 j ∧ v = .slice A (l1 ++ cellsB xn (inB q) 0 (xk.data.toList.take j)).length cap ∧ Hid (TL w wx A cap (l1 ++ cellsB xn (inB q) 0 (xk.data.toList.take j))) ∧ Hid (Box wx bm 99 #[.string xn, .string xk, .slice xA xm.length xc])) (fun _ i _ => xk.size - (intOf i).toNat)
      case atStart => exact ⟨0, A, cap, by omega, rfl, by rw [← hln.out], HT2, HB1⟩
      case round =>
        obtain ⟨j, A, cap, hj, rfl, rfl, HT3, HB3⟩ := hrel
        clear HT2 HB1 hln hl0
        rename World => wx
        by_cases hjl : j < xk.size
        · have e2 : decide ((j : Int) < (xk.size : Int)) = true := decide_eq_true (by omega)
          have b0 := HB3.out.cell 0
          have b1 := HB3.out.cell 1
          simp only [List.getElem?_toArray, List.getElem?_cons_zero, List.getElem?_cons_succ] at b0 b1
          have hl3 : (l1 ++ cellsB xn (inB q) 0 (xk.data.toList.take j)).length ≤ 50000 := by
            have h1 := cellsB_len xn (inB q) (xk.data.toList.take j) 0
            rw [List.length_take] at h1
            rw [List.length_append]
            omega
          have hnx : Hid (l1 ++ cellsB xn (inB q) 0 (xk.data.toList.take (j + 1)) = (l1 ++ cellsB xn (inB q) 0 (xk.data.toList.take j)) ++ (if inB q xk[j] = true then [cellTS xn (j : Int)] else [])) := Lib.hid (by rw [cellsB_take hjl, List.append_assoc])
          have HIj := Lib.hid (fun W => HI.out xk[j] W)
          have HNj := Lib.hid (fun W hb => HNk.out W hb (j : Int))
          have hin : Hid (inB q xk[j] = decide (0 ≤ Lib.indexByte q.data.toList xk[j])) := Lib.hid rfl
          obtain ⟨l4, hl4e⟩ : ∃ l, Hid (l = l1 ++ cellsB xn (inB q) 0 (xk.data.toList.take (j + 1))) := ⟨_, Lib.hid rfl⟩
          rw [← hl4e.out] at hnx
          generalize (l1 ++ cellsB xn (inB q) 0 (xk.data.toList.take j)) = l3 at *
          generalize Lib.indexByte q.data.toList xk[j] = z at *
          by_cases hz : 0 ≤ z
          · have d1 : decide (0 ≤ z) = true := decide_eq_true hz
            have hnx2 : Hid (l4 = l3 ++ [cellTS xn (j : Int)]) := Lib.hid (by rw [hnx.out, hin.out, d1, if_pos rfl])
            generalize cellTS xn (j : Int) = ct at *
            clear hz hnx hin
            go_wp2_with fail
            refine (HIj.out _).mono ?_
            rintro e w4 ⟨rfl, h4⟩
            subst h4
            go_wp2_with fail
            refine (HNj.out _ HT3.out.fr).mono ?_
            rintro e w5 ⟨rfl, hb5⟩
            have HT5 := Lib.hid (HT3.out.on hb5)
            have HB5 := Lib.hid (HB3.out.kept (Fr.of_below hb5 []) (by simp))
            clear hb5 HT3 HB3 b0 b1
            go_wp2_with (at_builtin; refine wpList_push rfl _ _ _ rfl (HT5.out.seg.alloc _) (by rw [List.length_map]) Tryz.underlying22 Hi.out Hz0.out Hz1.out Hz2.out rfl rfl rfl (new_cell _ _ _) rfl (by omega) (by omega) ?_; intro A7 cap7 w7 hs7 f7 hf7)
            have HT7 := Lib.hid (HT5.out.push hs7 f7 hf7)
            have HB7 : Hid (Box w7 bm 99 #[.string xn, .string xk, .slice xA xm.length xc]) := Lib.hid ((HB5.out.kept ((Fr.refl [] _).alloc _) (by simp)).kept f7 (HT5.out.seg.ne_box HB5.out (by decide)))
            rw [← hnx2.out] at HT7
            have hl4 : Hid (l3.length + 1 = l4.length) := Lib.hid (by rw [hnx2.out, List.length_append]; rfl)
            go_roundw
            case rel => exact ⟨j + 1, A7, cap7, by omega, by go_num, by rw [hl4.out, hl4e.out], by rw [hl4e.out] at HT7; exact HT7, HB7⟩
            case measure => simp [intOf]; omega
          · have d1 : decide (0 ≤ z) = false := decide_eq_false hz
            have hnx2 : Hid (l4 = l3) := Lib.hid (by rw [hnx.out, hin.out, d1, if_neg (by simp), List.append_nil])
            clear hz hnx hin
            go_wp2_with fail
            refine (HIj.out _).mono ?_
            rintro e w4 ⟨rfl, h4⟩
            subst h4
            rw [← hnx2.out] at HT3
            have hl4 : Hid (l3.length = l4.length) := Lib.hid (by rw [hnx2.out])
            go_wp2_with fail
            go_roundw
            case rel => exact ⟨j + 1, A, cap, by omega, by go_num, by rw [hl4.out, hl4e.out], by rw [hl4e.out] at HT3; exact HT3, HB3⟩
            case measure => simp [intOf]; omega
        · obtain rfl : j = xk.size := by omega
          have e2 : decide ((xk.size : Int) < (xk.size : Int)) = false := decide_eq_false (by omega)
          have hfull : Hid (l1 ++ cellsB xn (inB q) 0 (xk.data.toList.take xk.size) = l2) := Lib.hid (by rw [hnext.out, List.take_of_length_le (by rw [Lib.size_eq]; exact Nat.le_refl _)])
          rw [hfull.out] at HT3
          have hl4 : Hid ((l1 ++ cellsB xn (inB q) 0 (xk.data.toList.take xk.size)).length = l2.length) := Lib.hid (congrArg List.length hfull.out)
          go_wp2_with fail
          go_roundw
          case rel => exact ⟨k + 1, A, cap, by omega, by go_num, by rw [hl4.out, hl2.out], by rw [hl2.out] at HT3; exact HT3⟩
          case measure => simp [intOf]; omega
    · obtain rfl : k = no := by omega
      have e1 : decide ((k : Int) < (k : Int)) = false := decide_eq_false (by omega)
      have hall : Hid (L.take k = L) := Lib.hid (List.take_of_length_le (by rw [hLn.out]; exact Nat.le_refl _))
      rw [hall.out] at HT
      go_wp2_with fail
      go_ret
      exact ⟨A, cap, congrArg (fun z => Ending.returned (.slice A (cellsL (inB q) z).length cap)) hall.out, HT.out⟩
end Go.Proofs.YtdmmkjijgoiecaaGreatDoor.sy

/-
  system: nodes and places: the program's.
-/
set_option linter.all false
namespace Go.Proofs.YtdmmkjijgoiecaaGreatDoor.sy
open Go.RowKit Go.Proofs.YtdmmkjijgoiecaaGreatDoor.mem
open Go.Proofs.YtdmmkjijgoiecaaGreatDoor.nm (Tab tab_below)
open Go.Proofs.YtdmmkjijgoiecaaGreatDoor.tx (rsS)

theorem goE_ok {α : Type} {chk : α → Int} {bad : α → α → Bool} : ∀ {p : Option α} {xs : List α}, goE chk bad p xs = 0 → ∀ x ∈ xs, chk x = 0
  | _, [], _, x, hx => by cases hx
  | p, y :: r, h, x, hx => by
    rw [goE] at h
    by_cases hy : chk y = 0
    · rw [if_pos hy] at h
      rcases List.mem_cons.1 hx with rfl | hx
      · exact hy
      · cases hb : badP bad p y with
        | true => rw [hb, cond_true] at h; cases h
        | false => rw [hb, cond_false] at h; exact goE_ok h x hx
    · rw [if_neg hy] at h
      exact absurd h hy
theorem thenE_ok {a b : Int} (h : thenE a b = 0) : a = 0 ∧ b = 0 := by
  unfold thenE at h
  split at h
  · exact ⟨‹_›, h⟩
  · exact absurd h ‹_›
theorem kinds_le {s : ByteArray} {a b : Nat} (h : kindsB s a b = true) : s.size ≤ b := by
  unfold kindsB at h
  simp at h
  exact h.2.2
theorem obj_ok {x : SO} (h : objE x = 0) : x.kinds.size ≤ 64 := by
  rw [objE_eq] at h
  unfold objI at h
  split at h
  · cases h
  · split at h
    · cases h
    · rename_i h2
      exact kinds_le (by simpa using h2)
theorem con_ok {c : SC} (h : conE c = 0) : c.args.length ≤ 7 := by
  unfold conE at h
  split at h
  · cases h
  · split at h
    · cases h
    · split at h
      · rename_i h3
        unfold rightB at h3
        split at h3
        · simp only [Bool.and_eq_true] at h3
          rcases hc : cutAt c.tag.toList with _ | ⟨l, r⟩
          · rw [callB_no hc] at h3
            exact absurd h3.2 (by simp)
          · have h4 := callB_yes (P := ⟨l.toArray⟩) (R := ⟨r.toArray⟩) (args := c.args) hc
            rw [h4] at h3
            simp only [Bool.and_eq_true, decide_eq_true_eq] at h3
            have := kinds_le h3.2.1
            omega
        · split at h3
          · simp only [Bool.and_eq_true, decide_eq_true_eq] at h3
            omega
          · simp only [Bool.and_eq_true, decide_eq_true_eq] at h3
            omega
      · cases h
structure ChkOk (s : SS) : Prop where
  o : s.objs.length ≤ 600
  f : s.fns.length ≤ 600
  c : s.cons.length ≤ 6000
  k : ∀ x ∈ s.objs, x.kinds.size ≤ 64
  g : ∀ c ∈ s.cons, c.args.length ≤ 7
theorem check_ok {s : SS} (h : checkE s = 0) : ChkOk s := by
  unfold checkE at h
  split at h
  · cases h
  · rename_i hn
    obtain ⟨h1, h2⟩ := thenE_ok h
    obtain ⟨_, h3⟩ := thenE_ok h2
    exact ⟨by omega, by omega, by omega, fun x hx => obj_ok (goE_ok h1 x hx), fun c hc => con_ok (goE_ok h3 c hc)⟩

/-- a constraint's nodes -/
def conN (c : SC) : List ByteArray := (c.a :: (if c.op = 1 then [] else [c.b])) ++ c.args.filter (fun a => !(a.size == 0))
def nodesL (s : SS) : List ByteArray := s.cons.flatMap conN ++ cellsL (inB ⟨#[112]⟩) s.objs
def placesL (s : SS) : List ByteArray := (cellsL (inB ⟨#[105, 112]⟩) s.objs ++ s.fns.map (·.name)) ++ (s.cons.filter fun c => c.op == 1).map (·.b)

theorem conN_len (c : SC) (h : c.args.length ≤ 7) : (conN c).length ≤ 9 := by
  unfold conN
  have := List.length_filter_le (fun a : ByteArray => !(a.size == 0)) c.args
  rw [List.length_append, List.length_cons]
  split <;> simp <;> omega
theorem flat_len {l : List SC} (h : ∀ c ∈ l, c.args.length ≤ 7) : (l.flatMap conN).length ≤ l.length * 9 := by
  induction l with
  | nil => simp
  | cons c r ih =>
    have h1 := ih (fun x hx => h x (List.mem_cons_of_mem _ hx))
    have h2 := conN_len c (h c List.mem_cons_self)
    rw [List.flatMap_cons, List.length_append, List.length_cons]
    omega
theorem flat_take {l : List SC} {k : Nat} (hk : k < l.length) : (l.take (k + 1)).flatMap conN = (l.take k).flatMap conN ++ conN l[k] := by
  rw [List.take_succ_eq_append_getElem hk, List.flatMap_append]
  simp
theorem filt_take {l : List ByteArray} {k : Nat} (hk : k < l.length) : (l.take (k + 1)).filter (fun a => !(a.size == 0)) = (l.take k).filter (fun a => !(a.size == 0)) ++ (if (l[k].size == 0) = true then [] else [l[k]]) := by
  rw [List.take_succ_eq_append_getElem hk, List.filter_append]
  congr 1
  cases h : (l[k].size == 0) <;> simp [List.filter_cons, h]

noncomputable def orNil (e : Int) (l : List ByteArray) : List (List UInt8) := if e = 0 then rsS (l.map tb) else []
def NPost (w : World) (R : List (List UInt8)) (e : Ending) (w' : World) : Prop := ∃ A cap, e = .returned (.slice A R.length cap) ∧ Rd w' A (R.map encStr) ∧ Below w.heap.size w w'
theorem TL.app {w wr w2 : World} {A A2 : Option Addr} {cap cap2 : Nat} {l m : List ByteArray} (h : TL w wr A cap l) (hs : Seg w2 9 A2 cap2 (l.map Value.string ++ m.map Value.string)) (f : Fr (blk A) wr w2) (hb : blk A2 = blk A ∨ blk A2 = [wr.heap.size]) : TL w w2 A2 cap2 (l ++ m) := by
  refine ⟨by rw [List.map_append]; exact hs, h.fr.trans (f.below (fun g hg => h.own g hg) h.fr.size), fun q hq => ?_⟩
  rcases hb with e | e
  · exact h.own q (e ▸ hq)
  · rw [e, List.mem_singleton] at hq
    have := h.fr.size
    omega
theorem TL.fresh {w w0 wr : World} {A : Option Addr} {cap : Nat} {l : List ByteArray} (h : TL w0 wr A cap l) (hb : Below w.heap.size w w0) : TL w wr A cap l := ⟨h.seg, hb.trans (h.fr.mono hb.size), fun q hq => Nat.le_trans hb.size (h.own q hq)⟩
theorem SR.push3 {w wr w2 : World} {xs : Array Value} {A : Option Addr} {cap : Nat} {l : List ByteArray} {o : Obj} (h : SR w wr xs) (ht : TL w wr A cap l) (f : Fr (blk A) (wr.alloc o) w2) : SR w w2 xs := by
  have f2 : Fr (blk A) wr w2 := ((Fr.refl [] wr).alloc o).trans f (fun g hg => (by cases hg)) (fun g hg => Or.inl hg)
  exact ⟨h.1.trans (f2.below (fun g hg => ht.own g hg) h.1.size), h.2.kept f2 (ht.seg.ne_box h.2 (by decide))⟩
theorem one_str (m : List ByteArray) : ∀ u ∈ m.map Value.string, u.oneCell' = true := by
  intro u hu
  obtain ⟨s, _, rfl⟩ := List.mem_map.1 hu
  rfl

/-- texts in a block of the call's own -/
def NSPost (w : World) (R : List (List UInt8)) (e : Ending) (w' : World) : Prop := ∃ A cap, e = .returned (.slice A R.length cap) ∧ Seg w' 9 A cap (R.map encStr) ∧ (∀ q ∈ blk A, w.heap.size ≤ q) ∧ Below w.heap.size w w'
theorem NSPost.n {w : World} {R : List (List UInt8)} {e : Ending} {w' : World} (h : NSPost w R e w') : NPost w R e w' := by
  obtain ⟨A, cap, h1, h2, _, h4⟩ := h
  exact ⟨A, cap, h1, h2.rd, h4⟩

set_option maxHeartbeats 8000000 in
set_option maxRecDepth 100000 in
theorem nodes_seg (s : MS) (w : World) (hs : SysM w s) (htab : Tab w) : Calls Tryz.prog 64 #[s.val] w (NSPost w (orNil (checkE s.sys) (nodesL s.sys))) := by
  have HCK := Lib.hid (fun W (hb : Below w.heap.size w W) => check_any s W (hs.below hb) (tab_below htab hb))
  have HCE := Lib.hid (fun W (hb : Below w.heap.size w W) h1 h2 => cells_any s ⟨#[112]⟩ W (hs.below hb) (tab_below htab hb) h1 h2)
  have HC := Lib.hid (fun W (hb : Below w.heap.size w W) => hs.c.below hb)
  have HG : Hid (∀ W, Below w.heap.size w W → ∀ x ∈ s.cs, Rd W x.aA (x.c.args.map Value.string)) := Lib.hid (fun W hb x hx => ((hs.ck x hx).below hb).g)
  have Hok := Lib.hid (fun h => check_ok (s := s.sys) h)
  have HR := Lib.hid (fun W A cap l => rising_any W A cap l)
  unfold IPost at HCK
  unfold LPost at HCE
  unfold RPost at HR
  obtain ⟨i0, hi0, hz0, hz1, hz2⟩ := info_parts tx.info_str
  have Hi := Lib.hid hi0
  have Hz0 := Lib.hid hz0
  have Hz1 := Lib.hid hz1
  have Hz2 := Lib.hid hz2
  clear hs htab hi0 hz0 hz1 hz2
  unfold NSPost
  obtain ⟨V, hV⟩ : ∃ V, Hid (V = orNil (checkE s.sys) (nodesL s.sys)) := ⟨_, Lib.hid rfl⟩
  rw [← hV.out]
  obtain ⟨oA, oc, os, fA, fc, fs, cA, cc, cs⟩ := s
  unfold MS.val MS.sys at *
  dsimp only at *
  obtain ⟨E, hE⟩ : ∃ E, Hid (E = checkE ⟨os.map (·.o), fs, cs.map (·.c)⟩) := ⟨_, Lib.hid rfl⟩
  rw [← hE.out] at hV HCK Hok
  obtain ⟨no, hNo⟩ : ∃ n, Hid (n = os.length) := ⟨_, Lib.hid rfl⟩
  obtain ⟨nf, hNf⟩ : ∃ n, Hid (n = fs.length) := ⟨_, Lib.hid rfl⟩
  obtain ⟨nc, hNc⟩ : ∃ n, Hid (n = cs.length) := ⟨_, Lib.hid rfl⟩
  rw [← hNo.out, ← hNf.out, ← hNc.out] at HCK HCE ⊢
  go_enter Tryz.func64, Tryz.ntmps64
  have X0 := Lib.hid (SR.new w #[.slice oA no oc, .slice fA nf fc, .slice cA nc cc])
  go_wp2_with fail
  refine (HCK.out _ X0.out.1).mono ?_
  rintro e w2 ⟨rfl, hb2⟩
  have X2 := Lib.hid (X0.out.on hb2)
  clear hb2 X0 HCK
  by_cases hEz : E = 0
  rotate_left
  · have d0 : (E != 0) = true := by simpa using hEz
    have hv : Hid (V = []) := Lib.hid (by rw [hV.out]; unfold orNil; rw [if_neg hEz])
    clear hEz
    go_wp2_with fail
    go_ret
    exact ⟨none, 0, by rw [hv.out]; rfl, by rw [hv.out]; exact Seg.nil _ _, fun q hq => (by cases hq), X2.out.1⟩
  have d0 : (E != 0) = false := by simpa using hEz
  have hok := Lib.hid (Hok.out hEz)
  have hV1 : Hid (V = rsS ((nodesL ⟨os.map (·.o), fs, cs.map (·.c)⟩).map tb)) := Lib.hid (by rw [hV.out]; unfold orNil; rw [if_pos hEz])
  clear hEz Hok hV
  have hno : no ≤ 600 := by have := hok.out.o; rw [List.length_map] at this; have := hNo.out; omega
  have hnc : nc ≤ 6000 := by have := hok.out.c; rw [List.length_map] at this; have := hNc.out; omega
  have hkk : Hid (∀ x ∈ os, x.o.kinds.size ≤ 64) := Lib.hid (fun x hx => hok.out.k x.o (List.mem_map_of_mem hx))
  have hgg : Hid (∀ x ∈ cs, x.c.args.length ≤ 7) := Lib.hid (fun x hx => hok.out.g x.c (List.mem_map_of_mem hx))
  obtain ⟨L, hL⟩ : ∃ L, Hid (L = cs.map (·.c)) := ⟨_, Lib.hid rfl⟩
  have hLn : Hid (L.length = nc) := Lib.hid (by rw [hL.out, List.length_map]; exact hNc.out.symm)
  have hLg : Hid (∀ c ∈ L, c.args.length ≤ 7) := Lib.hid (fun c hc => by
    rw [hL.out] at hc
    obtain ⟨x, hx, rfl⟩ := List.mem_map.1 hc
    exact hgg.out x hx)
  have s2 := X2.out.2.cell 2
  simp only [List.getElem?_toArray, List.getElem?_cons_zero, List.getElem?_cons_succ] at s2
  have hnil : Hid (TL w w2 none 0 ((L.take 0).flatMap conN)) := Lib.hid (TL.nil X2.out.1)
  go_wp2_with fail
  clear s2 d0
  go_loopw [3, 14] (fun v i wr => ∃ (k : Nat) (A : Option Addr) (cap : Nat), k ≤ nc ∧ i = .int .i64 k ∧ v = .slice A ((L.take k).flatMap conN).length cap ∧ Hid (TL w wr A cap ((L.take k).flatMap conN)) ∧ Hid (SR w wr #[.slice oA no oc, .slice fA nf fc, .slice cA nc cc])) (fun _ i _ => nc - (intOf i).toNat)
  case atStart => exact ⟨0, none, 0, by omega, rfl, rfl, hnil, X2⟩
  case round =>
    obtain ⟨k, A, cap, hk, rfl, rfl, HT, HX⟩ := hrel
    clear hnil X2
    rename World => wr
    by_cases hkl : k < nc
    · have e1 : decide ((k : Int) < (nc : Int)) = true := decide_eq_true (by omega)
      have hkx : k < cs.length := by rw [← hNc.out]; exact hkl
      have hkL : k < L.length := by rw [hLn.out]; exact hkl
      obtain ⟨g, off, rfl, hg, c0, c1, c2, c3, c4, c5⟩ := tbl_con (HC.out wr HT.out.fr) hkx
      have hlen := flat_len (l := L.take k) (fun c hc => hLg.out c (List.mem_of_mem_take hc))
      rw [List.length_take, Nat.min_eq_left (by omega)] at hlen
      have hlen2 : ((L.take k).flatMap conN).length ≤ 60000 := by omega
      have hLe : Hid (L[k] = cs[k].c) := Lib.hid (by
        have e : L[k]? = some cs[k].c := by rw [hL.out, List.getElem?_map, List.getElem?_eq_getElem hkx]; rfl
        rw [List.getElem?_eq_getElem hkL] at e
        exact Option.some.inj e)
      have hnext := Lib.hid (flat_take hkL)
      rw [hLe.out] at hnext
      have hag := hgg.out cs[k] (List.getElem_mem hkx)
      have HGk := Lib.hid (fun W hb => HG.out W hb cs[k] (List.getElem_mem hkx))
      clear hlen hLe
      obtain ⟨l2, hl2⟩ : ∃ l, Hid (l = (L.take (k + 1)).flatMap conN) := ⟨_, Lib.hid rfl⟩
      rw [← hl2.out] at hnext
      generalize (L.take k).flatMap conN = l1 at *
      generalize cs[k] = x at *
      obtain ⟨⟨xo, xa, xb, xk, xt, xg⟩, xA, xc⟩ := x
      dsimp only at *
      have HT1 := Lib.hid (HT.out.on ((Fr.refl [] wr).alloc (.cells #[.int .i64 xo, .string xa, .string xb, .int .i64 xk, .string xt, .slice xA xg.length xc] 105)).all)
      have HX1 := Lib.hid (HX.out.alloc (.cells #[.int .i64 xo, .string xa, .string xb, .int .i64 xk, .string xt, .slice xA xg.length xc] 105))
      have HB1 := Lib.hid (Box.new wr 105 #[.int .i64 xo, .string xa, .string xb, .int .i64 xk, .string xt, .slice xA xg.length xc])
      have b1 := HB1.out.cell 1
      simp only [List.getElem?_toArray, List.getElem?_cons_zero, List.getElem?_cons_succ] at b1
      go_upto_region 7 with fail
      have hlt := HT.out.fr.size
      generalize hW : wr.alloc (.cells #[.int .i64 xo, .string xa, .string xb, .int .i64 xk, .string xt, .slice xA xg.length xc] 105) = W at *
      clear hW c0 c1 c2 c3 c4 c5 HT HX
      generalize wr.heap.size = bm at *
      by_cases hop : xo = 1
      · have dop : (xo != 1) = false := by simpa using hop
        have hcn : Hid (l2 = l1 ++ [xa] ++ xg.filter (fun a => !(a.size == 0))) := Lib.hid (by rw [hnext.out]; unfold conN; rw [if_pos hop]; simp)
        clear hnext hop
        go_wp2_with (at_builtin; refine wpList_push rfl _ _ _ rfl (HT1.out.seg.alloc _) (by rw [List.length_map]) Tryz.underlying22 Hi.out Hz0.out Hz1.out Hz2.out rfl rfl rfl (new_cell _ _ _) rfl (by omega) (by omega) ?_; intro A3 cap3 w3 hs3 f3 hf3; have HB3 : Hid (Box w3 bm 105 #[.int .i64 xo, .string xa, .string xb, .int .i64 xk, .string xt, .slice xA xg.length xc]) := Lib.hid ((HB1.out.kept ((Fr.refl [] _).alloc _) (by simp)).kept f3 (HT1.out.seg.ne_box HB1.out (by decide))); have b0 := HB3.out.cell 0; have b5 := HB3.out.cell 5; simp only [List.getElem?_toArray, List.getElem?_cons_zero, List.getElem?_cons_succ] at b0 b5)
        have HT3 := Lib.hid (HT1.out.push hs3 f3 hf3)
        have HX3 := Lib.hid (HX1.out.push3 HT1.out f3)
        obtain ⟨l5, hl5e⟩ : ∃ l, Hid (l = l1 ++ [xa]) := ⟨_, Lib.hid rfl⟩
        rw [← hl5e.out] at HT3 hcn
        have hl5 : Hid (l5 ++ xg.filter (fun a => !(a.size == 0)) = l2) := Lib.hid hcn.out.symm
        have hl5n : Hid (l5.length = l1.length + 1) := Lib.hid (by rw [hl5e.out, List.length_append]; rfl)
        have hl5b : l5.length ≤ 60002 := by have := hl5n.out; omega
        clear hcn b0 b5 b1 dop hs3 f3 hf3 HT1 HB1 HX1
        have hl50 : Hid (l5 = l5 ++ (xg.take 0).filter (fun a => !(a.size == 0))) := Lib.hid (by simp)
        have hln : Hid (l5.length = (l5 ++ (xg.take 0).filter (fun a => !(a.size == 0))).length) := Lib.hid (congrArg List.length hl50.out)
        have HTi : Hid (TL w w3 A3 cap3 (l5 ++ (xg.take 0).filter (fun a => !(a.size == 0)))) := Lib.hid (by rw [← hl50.out]; exact HT3.out)
        clear HT3
        go_loopw [3, 34] (fun v i wx => ∃ (j : Nat) (A : Option Addr) (cap : Nat), j ≤ xg.length ∧ i = .int .i64 j ∧ v = .slice A (l5 ++ (xg.take j).filter (fun a => !(a.size == 0))).length cap ∧ Hid (TL w wx A cap (l5 ++ (xg.take j).filter (fun a => !(a.size == 0)))) ∧ Hid (Box wx bm 105 #[.int .i64 xo, .string xa, .string xb, .int .i64 xk, .string xt, .slice xA xg.length xc]) ∧ Hid (SR w wx #[.slice oA no oc, .slice fA nf fc, .slice (some ⟨g, off, none⟩) nc cc])) (fun _ i _ => xg.length - (intOf i).toNat)
        case atStart => exact ⟨0, A3, cap3, by omega, rfl, by rw [← hln.out, hl5n.out], HTi, HB3, HX3⟩
        case round =>
          obtain ⟨j, A, cap, hj, rfl, rfl, HT6, HB6, HX6⟩ := hrel
          clear HTi hln hl50
          rename World => wx
          by_cases hjl : j < xg.length
          · have e2 : decide ((j : Int) < (xg.length : Int)) = true := decide_eq_true (by omega)
            obtain ⟨g6, o6, rfl, _, hc6⟩ := (HGk.out wx HT6.out.fr) (by rw [List.length_map]; omega)
            have c6 := hc6 j (by rw [List.length_map]; exact hjl)
            rw [List.getElem_map] at c6
            clear hc6
            have hl6 : (l5 ++ (xg.take j).filter (fun a => !(a.size == 0))).length ≤ 70000 := by
              have h1 := List.length_filter_le (fun a : ByteArray => !(a.size == 0)) (xg.take j)
              rw [List.length_take] at h1
              rw [List.length_append]
              omega
            have hnx : Hid (l5 ++ (xg.take (j + 1)).filter (fun a => !(a.size == 0)) = (l5 ++ (xg.take j).filter (fun a => !(a.size == 0))) ++ (if (xg[j].size == 0) = true then [] else [xg[j]])) := Lib.hid (by rw [filt_take hjl, List.append_assoc])
            obtain ⟨l7, hl7⟩ : ∃ l, Hid (l = l5 ++ (xg.take (j + 1)).filter (fun a => !(a.size == 0))) := ⟨_, Lib.hid rfl⟩
            rw [← hl7.out] at hnx
            generalize (l5 ++ (xg.take j).filter (fun a => !(a.size == 0))) = l6 at *
            have hz := size_nil xg[j]
            generalize xg[j] = aj at *
            rcases hzz : (aj.size == 0) with _ | _ <;> rw [hzz] at hz
            · have hnx2 : Hid (l7 = l6 ++ [aj]) := Lib.hid (by rw [hnx.out, hzz]; rfl)
              clear hzz hnx
              go_wp2_with (at_builtin; refine wpList_push rfl _ _ _ rfl (HT6.out.seg.alloc _) (by rw [List.length_map]) Tryz.underlying22 Hi.out Hz0.out Hz1.out Hz2.out rfl rfl rfl (new_cell _ _ _) rfl (by omega) (by omega) ?_; intro A9 cap9 w9 hs9 f9 hf9; have HB9 : Hid (Box w9 bm 105 #[.int .i64 xo, .string xa, .string xb, .int .i64 xk, .string xt, .slice (some ⟨g6, o6, none⟩) xg.length xc]) := Lib.hid ((HB6.out.kept ((Fr.refl [] _).alloc _) (by simp)).kept f9 (HT6.out.seg.ne_box HB6.out (by decide))))
              have HT9 := Lib.hid (HT6.out.push hs9 f9 hf9)
              have HX9 := Lib.hid (HX6.out.push3 HT6.out f9)
              rw [← hnx2.out] at HT9
              have hlz : Hid (l6.length + 1 = l7.length) := Lib.hid (by rw [hnx2.out, List.length_append]; rfl)
              go_roundw
              case rel => exact ⟨j + 1, A9, cap9, by omega, by go_num, by rw [hlz.out, hl7.out], by rw [hl7.out] at HT9; exact HT9, HB9, HX9⟩
              case measure => simp [intOf]; omega
            · have hnx2 : Hid (l7 = l6) := Lib.hid (by rw [hnx.out, hzz]; simp)
              clear hzz hnx
              rw [← hnx2.out] at HT6
              have hlz : Hid (l6.length = l7.length) := Lib.hid (by rw [hnx2.out])
              go_wp2_with fail
              go_roundw
              case rel => exact ⟨j + 1, A, cap, by omega, by go_num, by rw [hlz.out, hl7.out], by rw [hl7.out] at HT6; exact HT6, HB6, HX6⟩
              case measure => simp [intOf]; omega
          · obtain rfl : j = xg.length := by omega
            have e2 : decide ((xg.length : Int) < (xg.length : Int)) = false := decide_eq_false (by omega)
            have hfull : Hid (l5 ++ (xg.take xg.length).filter (fun a => !(a.size == 0)) = l2) := Lib.hid (by rw [List.take_length, hl5.out])
            rw [hfull.out] at HT6
            have hlz : Hid ((l5 ++ (xg.take xg.length).filter (fun a => !(a.size == 0))).length = l2.length) := Lib.hid (congrArg List.length hfull.out)
            go_wp2_with fail
            go_roundw
            case rel => exact ⟨k + 1, A, cap, by omega, by go_num, by rw [hlz.out, hl2.out], by rw [hl2.out] at HT6; exact HT6, HX6⟩
            case measure => simp [intOf]; omega
      · have dop : (xo != 1) = true := by simpa using hop
        have hcn : Hid (l2 = l1 ++ [xa] ++ [xb] ++ xg.filter (fun a => !(a.size == 0))) := Lib.hid (by rw [hnext.out]; unfold conN; rw [if_neg hop]; simp)
        clear hnext hop
        go_upto_region 9 with (at_builtin; refine wpList_push rfl _ _ _ rfl (HT1.out.seg.alloc _) (by rw [List.length_map]) Tryz.underlying22 Hi.out Hz0.out Hz1.out Hz2.out rfl rfl rfl (new_cell _ _ _) rfl (by omega) (by omega) ?_; intro A3 cap3 w3 hs3 f3 hf3; have HB3 : Hid (Box w3 bm 105 #[.int .i64 xo, .string xa, .string xb, .int .i64 xk, .string xt, .slice xA xg.length xc]) := Lib.hid ((HB1.out.kept ((Fr.refl [] _).alloc _) (by simp)).kept f3 (HT1.out.seg.ne_box HB1.out (by decide))); have b0 := HB3.out.cell 0; have b2 := HB3.out.cell 2; simp only [List.getElem?_toArray, List.getElem?_cons_zero, List.getElem?_cons_succ] at b0 b2)
        have HT3 := Lib.hid (HT1.out.push hs3 f3 hf3)
        have HX3 := Lib.hid (HX1.out.push3 HT1.out f3)
        obtain ⟨l4, hl4e⟩ : ∃ l, Hid (l = l1 ++ [xa]) := ⟨_, Lib.hid rfl⟩
        rw [← hl4e.out] at HT3 hcn
        have hl4n : Hid (l1.length + 1 = l4.length) := Lib.hid (by rw [hl4e.out, List.length_append]; rfl)
        have hl4b : l4.length ≤ 60002 := by have := hl4n.out; omega
        rw [hl4n.out]
        clear b0 b1 dop hs3 f3 hf3 HT1 HB1 HX1
        go_wp2_with (at_builtin; refine wpList_push rfl _ _ _ rfl (HT3.out.seg.alloc _) (by rw [List.length_map]) Tryz.underlying22 Hi.out Hz0.out Hz1.out Hz2.out rfl rfl rfl (new_cell _ _ _) rfl (by omega) (by omega) ?_; intro A4 cap4 w4 hs4 f4 hf4; have HB4 : Hid (Box w4 bm 105 #[.int .i64 xo, .string xa, .string xb, .int .i64 xk, .string xt, .slice xA xg.length xc]) := Lib.hid ((HB3.out.kept ((Fr.refl [] _).alloc _) (by simp)).kept f4 (HT3.out.seg.ne_box HB3.out (by decide))); have b5 := HB4.out.cell 5; simp only [List.getElem?_toArray, List.getElem?_cons_zero, List.getElem?_cons_succ] at b5)
        have HT4 := Lib.hid (HT3.out.push hs4 f4 hf4)
        have HX4 := Lib.hid (HX3.out.push3 HT3.out f4)
        obtain ⟨l5, hl5e⟩ : ∃ l, Hid (l = l4 ++ [xb]) := ⟨_, Lib.hid rfl⟩
        rw [← hl5e.out] at HT4 hcn
        have hl5 : Hid (l5 ++ xg.filter (fun a => !(a.size == 0)) = l2) := Lib.hid hcn.out.symm
        have hl5n : Hid (l5.length = l4.length + 1) := Lib.hid (by rw [hl5e.out, List.length_append]; rfl)
        have hl5b : l5.length ≤ 60004 := by have := hl5n.out; omega
        clear hcn b2 b5 hs4 f4 hf4 HT3 HB3 HX3
        have hl50 : Hid (l5 = l5 ++ (xg.take 0).filter (fun a => !(a.size == 0))) := Lib.hid (by simp)
        have hln : Hid (l5.length = (l5 ++ (xg.take 0).filter (fun a => !(a.size == 0))).length) := Lib.hid (congrArg List.length hl50.out)
        have HTi : Hid (TL w w4 A4 cap4 (l5 ++ (xg.take 0).filter (fun a => !(a.size == 0)))) := Lib.hid (by rw [← hl50.out]; exact HT4.out)
        clear HT4
        go_loopw [3, 34] (fun v i wx => ∃ (j : Nat) (A : Option Addr) (cap : Nat), j ≤ xg.length ∧ i = .int .i64 j ∧ v = .slice A (l5 ++ (xg.take j).filter (fun a => !(a.size == 0))).length cap ∧ Hid (TL w wx A cap (l5 ++ (xg.take j).filter (fun a => !(a.size == 0)))) ∧ Hid (Box wx bm 105 #[.int .i64 xo, .string xa, .string xb, .int .i64 xk, .string xt, .slice xA xg.length xc]) ∧ Hid (SR w wx #[.slice oA no oc, .slice fA nf fc, .slice (some ⟨g, off, none⟩) nc cc])) (fun _ i _ => xg.length - (intOf i).toNat)
        case atStart => exact ⟨0, A4, cap4, by omega, rfl, by rw [← hln.out, hl5n.out], HTi, HB4, HX4⟩
        case round =>
          obtain ⟨j, A, cap, hj, rfl, rfl, HT6, HB6, HX6⟩ := hrel
          clear HTi hln hl50
          rename World => wx
          by_cases hjl : j < xg.length
          · have e2 : decide ((j : Int) < (xg.length : Int)) = true := decide_eq_true (by omega)
            obtain ⟨g6, o6, rfl, _, hc6⟩ := (HGk.out wx HT6.out.fr) (by rw [List.length_map]; omega)
            have c6 := hc6 j (by rw [List.length_map]; exact hjl)
            rw [List.getElem_map] at c6
            clear hc6
            have hl6 : (l5 ++ (xg.take j).filter (fun a => !(a.size == 0))).length ≤ 70000 := by
              have h1 := List.length_filter_le (fun a : ByteArray => !(a.size == 0)) (xg.take j)
              rw [List.length_take] at h1
              rw [List.length_append]
              omega
            have hnx : Hid (l5 ++ (xg.take (j + 1)).filter (fun a => !(a.size == 0)) = (l5 ++ (xg.take j).filter (fun a => !(a.size == 0))) ++ (if (xg[j].size == 0) = true then [] else [xg[j]])) := Lib.hid (by rw [filt_take hjl, List.append_assoc])
            obtain ⟨l7, hl7⟩ : ∃ l, Hid (l = l5 ++ (xg.take (j + 1)).filter (fun a => !(a.size == 0))) := ⟨_, Lib.hid rfl⟩
            rw [← hl7.out] at hnx
            generalize (l5 ++ (xg.take j).filter (fun a => !(a.size == 0))) = l6 at *
            have hz := size_nil xg[j]
            generalize xg[j] = aj at *
            rcases hzz : (aj.size == 0) with _ | _ <;> rw [hzz] at hz
            · have hnx2 : Hid (l7 = l6 ++ [aj]) := Lib.hid (by rw [hnx.out, hzz]; rfl)
              clear hzz hnx
              go_wp2_with (at_builtin; refine wpList_push rfl _ _ _ rfl (HT6.out.seg.alloc _) (by rw [List.length_map]) Tryz.underlying22 Hi.out Hz0.out Hz1.out Hz2.out rfl rfl rfl (new_cell _ _ _) rfl (by omega) (by omega) ?_; intro A9 cap9 w9 hs9 f9 hf9; have HB9 : Hid (Box w9 bm 105 #[.int .i64 xo, .string xa, .string xb, .int .i64 xk, .string xt, .slice (some ⟨g6, o6, none⟩) xg.length xc]) := Lib.hid ((HB6.out.kept ((Fr.refl [] _).alloc _) (by simp)).kept f9 (HT6.out.seg.ne_box HB6.out (by decide))))
              have HT9 := Lib.hid (HT6.out.push hs9 f9 hf9)
              have HX9 := Lib.hid (HX6.out.push3 HT6.out f9)
              rw [← hnx2.out] at HT9
              have hlz : Hid (l6.length + 1 = l7.length) := Lib.hid (by rw [hnx2.out, List.length_append]; rfl)
              go_roundw
              case rel => exact ⟨j + 1, A9, cap9, by omega, by go_num, by rw [hlz.out, hl7.out], by rw [hl7.out] at HT9; exact HT9, HB9, HX9⟩
              case measure => simp [intOf]; omega
            · have hnx2 : Hid (l7 = l6) := Lib.hid (by rw [hnx.out, hzz]; simp)
              clear hzz hnx
              rw [← hnx2.out] at HT6
              have hlz : Hid (l6.length = l7.length) := Lib.hid (by rw [hnx2.out])
              go_wp2_with fail
              go_roundw
              case rel => exact ⟨j + 1, A, cap, by omega, by go_num, by rw [hlz.out, hl7.out], by rw [hl7.out] at HT6; exact HT6, HB6, HX6⟩
              case measure => simp [intOf]; omega
          · obtain rfl : j = xg.length := by omega
            have e2 : decide ((xg.length : Int) < (xg.length : Int)) = false := decide_eq_false (by omega)
            have hfull : Hid (l5 ++ (xg.take xg.length).filter (fun a => !(a.size == 0)) = l2) := Lib.hid (by rw [List.take_length, hl5.out])
            rw [hfull.out] at HT6
            have hlz : Hid ((l5 ++ (xg.take xg.length).filter (fun a => !(a.size == 0))).length = l2.length) := Lib.hid (congrArg List.length hfull.out)
            go_wp2_with fail
            go_roundw
            case rel => exact ⟨k + 1, A, cap, by omega, by go_num, by rw [hlz.out, hl2.out], by rw [hl2.out] at HT6; exact HT6, HX6⟩
            case measure => simp [intOf]; omega
    · obtain rfl : k = nc := by omega
      have e1 : decide ((k : Int) < (k : Int)) = false := decide_eq_false (by omega)
      have hall : Hid (L.take k = L) := Lib.hid (List.take_of_length_le (by rw [hLn.out]; exact Nat.le_refl _))
      have hlq : Hid (((L.take k).flatMap conN).length = (L.flatMap conN).length) := Lib.hid (by rw [hall.out])
      rw [hall.out] at HT
      have hla := flat_len hLg.out
      rw [hLn.out] at hla
      have hlb := cellsL_len (p := inB ⟨#[112]⟩) (l := os.map (·.o)) (fun o ho => by
        obtain ⟨x, hx, rfl⟩ := List.mem_map.1 ho
        exact hkk.out x hx)
      rw [List.length_map, ← hNo.out] at hlb
      have hV3 : Hid (V = rsS ((L.flatMap conN ++ cellsL (inB ⟨#[112]⟩) (os.map (·.o))).map tb)) := Lib.hid (by rw [hV1.out, hL.out]; rfl)
      have CE := Lib.hid (HCE.out wr HX.out.1 hno hkk.out)
      clear HCE hV1 hall hLn hLg hL hkk hgg
      generalize L.flatMap conN = la at *
      generalize cellsL (inB ⟨#[112]⟩) (os.map (·.o)) = lb at *
      have s0 := HX.out.2.cell 0
      have s1 := HX.out.2.cell 1
      have s2 := HX.out.2.cell 2
      simp only [List.getElem?_toArray, List.getElem?_cons_zero, List.getElem?_cons_succ] at s0 s1 s2
      rw [hlq.out]
      go_wp2_with fail
      refine CE.out.mono ?_
      rintro e w5 ⟨A5, cap5, rfl, hT5⟩
      have HC5 := Lib.hid hT5
      have HT5 := Lib.hid (HT.out.on hT5.fr)
      clear hT5 s0 s1 s2 HT HX CE hlq
      have hla2 : la.length ≤ 60000 := by omega
      have hlb2 : lb.length ≤ 40000 := by omega
      clear hla hlb
      go_wp2_with (at_builtin; refine wpList_app rfl _ _ _ rfl HT5.out.seg HC5.out.seg.rd (by rw [List.length_map]) (by rw [List.length_map]) Tryz.underlying22 Hi.out Hz0.out Hz1.out Hz2.out rfl rfl rfl (one_str _) (by omega) (by omega) ?_; intro A6 cap6 w6 hs6 f6 hf6)
      have HT6 := Lib.hid (HT5.out.app hs6 f6 hf6)
      have K6 := HR.out w6 A6 cap6 (la ++ lb) HT6.out.seg (by rw [List.length_append]; omega)
      rw [← hV3.out, List.length_append] at K6
      have H6 := Lib.hid K6
      clear K6 hs6 f6 hf6 HR
      refine H6.out.mono ?_
      rintro e w7 ⟨cap7, rfl, hr7, f7⟩
      have R7 := Lib.hid hr7
      have B7 := Lib.hid (HT6.out.fr.trans (f7.below (fun g hg => HT6.out.own g hg) HT6.out.fr.size))
      have O7 := Lib.hid HT6.out.own
      clear hr7 f7 H6
      go_wp2_with fail
      go_ret
      exact ⟨A6, cap7, rfl, R7.out, O7.out, B7.out⟩
theorem nodes_any (s : MS) (w : World) (hs : SysM w s) (htab : Tab w) : Calls Tryz.prog 64 #[s.val] w (NPost w (orNil (checkE s.sys) (nodesL s.sys))) :=
  (nodes_seg s w hs htab).mono fun _ _ h => h.n
end Go.Proofs.YtdmmkjijgoiecaaGreatDoor.sy

/-
  system: places: the program's.
-/
set_option linter.all false
namespace Go.Proofs.YtdmmkjijgoiecaaGreatDoor.sy
open Go.RowKit Go.Proofs.YtdmmkjijgoiecaaGreatDoor.mem
open Go.Proofs.YtdmmkjijgoiecaaGreatDoor.nm (Tab tab_below)
open Go.Proofs.YtdmmkjijgoiecaaGreatDoor.tx (rsS)

theorem map_take_snoc {α β : Type} (f : α → β) {l : List α} {k : Nat} (hk : k < l.length) : (l.take (k + 1)).map f = (l.take k).map f ++ [f l[k]] := by
  rw [List.take_succ_eq_append_getElem hk, List.map_append]
  rfl
def adr (l : List SC) : List ByteArray := (l.filter fun c => c.op == 1).map (·.b)
theorem adr_take {l : List SC} {k : Nat} (hk : k < l.length) : adr (l.take (k + 1)) = adr (l.take k) ++ (if l[k].op = 1 then [l[k].b] else []) := by
  unfold adr
  rw [List.take_succ_eq_append_getElem hk, List.filter_append, List.map_append]
  congr 1
  by_cases h : l[k].op = 1 <;> simp [List.filter_cons, h]
theorem adr_len (l : List SC) : (adr l).length ≤ l.length := by
  unfold adr
  rw [List.length_map]
  exact List.length_filter_le _ _

set_option maxHeartbeats 8000000 in
set_option maxRecDepth 100000 in
theorem places_any (s : MS) (w : World) (hs : SysM w s) (htab : Tab w) : Calls Tryz.prog 65 #[s.val] w (NPost w (orNil (checkE s.sys) (placesL s.sys))) := by
  have HCK := Lib.hid (fun W (hb : Below w.heap.size w W) => check_any s W (hs.below hb) (tab_below htab hb))
  have HCE := Lib.hid (fun W (hb : Below w.heap.size w W) h1 h2 => cells_any s ⟨#[105, 112]⟩ W (hs.below hb) (tab_below htab hb) h1 h2)
  have HF := Lib.hid (fun W (hb : Below w.heap.size w W) => hs.f.below hb)
  have HC := Lib.hid (fun W (hb : Below w.heap.size w W) => hs.c.below hb)
  have Hok := Lib.hid (fun h => check_ok (s := s.sys) h)
  have HR := Lib.hid (fun W A cap l => rising_any W A cap l)
  unfold IPost at HCK
  unfold LPost at HCE
  unfold RPost at HR
  obtain ⟨i0, hi0, hz0, hz1, hz2⟩ := info_parts tx.info_str
  have Hi := Lib.hid hi0
  have Hz0 := Lib.hid hz0
  have Hz1 := Lib.hid hz1
  have Hz2 := Lib.hid hz2
  clear hs htab hi0 hz0 hz1 hz2
  unfold NPost
  obtain ⟨V, hV⟩ : ∃ V, Hid (V = orNil (checkE s.sys) (placesL s.sys)) := ⟨_, Lib.hid rfl⟩
  rw [← hV.out]
  obtain ⟨oA, oc, os, fA, fc, fs, cA, cc, cs⟩ := s
  unfold MS.val MS.sys at *
  dsimp only at *
  obtain ⟨E, hE⟩ : ∃ E, Hid (E = checkE ⟨os.map (·.o), fs, cs.map (·.c)⟩) := ⟨_, Lib.hid rfl⟩
  rw [← hE.out] at hV HCK Hok
  obtain ⟨no, hNo⟩ : ∃ n, Hid (n = os.length) := ⟨_, Lib.hid rfl⟩
  obtain ⟨nf, hNf⟩ : ∃ n, Hid (n = fs.length) := ⟨_, Lib.hid rfl⟩
  obtain ⟨nc, hNc⟩ : ∃ n, Hid (n = cs.length) := ⟨_, Lib.hid rfl⟩
  rw [← hNo.out, ← hNf.out, ← hNc.out] at HCK HCE ⊢
  go_enter Tryz.func65, Tryz.ntmps65
  have X0 := Lib.hid (SR.new w #[.slice oA no oc, .slice fA nf fc, .slice cA nc cc])
  go_wp2_with fail
  refine (HCK.out _ X0.out.1).mono ?_
  rintro e w2 ⟨rfl, hb2⟩
  have X2 := Lib.hid (X0.out.on hb2)
  clear hb2 X0 HCK
  by_cases hEz : E = 0
  rotate_left
  · have d0 : (E != 0) = true := by simpa using hEz
    have hv : Hid (V = []) := Lib.hid (by rw [hV.out]; unfold orNil; rw [if_neg hEz])
    clear hEz
    go_wp2_with fail
    go_ret
    exact ⟨none, 0, by rw [hv.out]; rfl, fun hz => by rw [hv.out] at hz; simp at hz, X2.out.1⟩
  have d0 : (E != 0) = false := by simpa using hEz
  have hok := Lib.hid (Hok.out hEz)
  have hV1 : Hid (V = rsS ((placesL ⟨os.map (·.o), fs, cs.map (·.c)⟩).map tb)) := Lib.hid (by rw [hV.out]; unfold orNil; rw [if_pos hEz])
  clear hEz Hok hV
  have hno : no ≤ 600 := by have := hok.out.o; rw [List.length_map] at this; have := hNo.out; omega
  have hnf : nf ≤ 600 := by have := hok.out.f; dsimp only at this; have := hNf.out; omega
  have hnc : nc ≤ 6000 := by have := hok.out.c; rw [List.length_map] at this; have := hNc.out; omega
  have hkk : Hid (∀ x ∈ os, x.o.kinds.size ≤ 64) := Lib.hid (fun x hx => hok.out.k x.o (List.mem_map_of_mem hx))
  have CE := Lib.hid (HCE.out w2 X2.out.1 hno hkk.out)
  have hlb := cellsL_len (p := inB ⟨#[105, 112]⟩) (l := os.map (·.o)) (fun o ho => by
    obtain ⟨x, hx, rfl⟩ := List.mem_map.1 ho
    exact hkk.out x hx)
  rw [List.length_map, ← hNo.out] at hlb
  obtain ⟨L, hL⟩ : ∃ L, Hid (L = cs.map (·.c)) := ⟨_, Lib.hid rfl⟩
  have hLn : Hid (L.length = nc) := Lib.hid (by rw [hL.out, List.length_map]; exact hNc.out.symm)
  have hV2 : Hid (V = rsS (((cellsL (inB ⟨#[105, 112]⟩) (os.map (·.o)) ++ fs.map (·.name)) ++ adr L).map tb)) := Lib.hid (by rw [hV1.out, hL.out]; rfl)
  clear HCE hV1 hkk hok
  generalize cellsL (inB ⟨#[105, 112]⟩) (os.map (·.o)) = lc at *
  have hlc2 : lc.length ≤ 40000 := by omega
  clear hlb
  have s0 := X2.out.2.cell 0
  have s1 := X2.out.2.cell 1
  have s2 := X2.out.2.cell 2
  simp only [List.getElem?_toArray, List.getElem?_cons_zero, List.getElem?_cons_succ] at s0 s1 s2
  go_wp2_with fail
  refine CE.out.mono ?_
  rintro e w3 ⟨A3, cap3, rfl, hT3⟩
  have X3 := Lib.hid (X2.out.on hT3.fr)
  have T3 := Lib.hid (hT3.fresh X2.out.1)
  clear hT3 CE s0 s1 s2 X2 d0
  have s1 := X3.out.2.cell 1
  simp only [List.getElem?_toArray, List.getElem?_cons_zero, List.getElem?_cons_succ] at s1
  have hl0 : Hid (lc = lc ++ (fs.take 0).map (·.name)) := Lib.hid (by simp)
  have hln : Hid (lc.length = (lc ++ (fs.take 0).map (·.name)).length) := Lib.hid (congrArg List.length hl0.out)
  have Ti : Hid (TL w w3 A3 cap3 (lc ++ (fs.take 0).map (·.name))) := Lib.hid (by rw [← hl0.out]; exact T3.out)
  go_wp2_with fail
  clear s1 T3
  go_loopw [3, 16] (fun v i wr => ∃ (k : Nat) (A : Option Addr) (cap : Nat), k ≤ nf ∧ i = .int .i64 k ∧ v = .slice A (lc ++ (fs.take k).map (·.name)).length cap ∧ Hid (TL w wr A cap (lc ++ (fs.take k).map (·.name))) ∧ Hid (SR w wr #[.slice oA no oc, .slice fA nf fc, .slice cA nc cc])) (fun _ i _ => nf - (intOf i).toNat)
  case atStart => exact ⟨0, A3, cap3, by omega, rfl, by rw [← hln.out], Ti, X3⟩
  case round =>
    obtain ⟨k, A, cap, hk, rfl, rfl, HT, HX⟩ := hrel
    clear Ti X3 hln hl0
    rename World => wr
    by_cases hkl : k < nf
    · have e1 : decide ((k : Int) < (nf : Int)) = true := decide_eq_true (by omega)
      have hkx : k < fs.length := by rw [← hNf.out]; exact hkl
      obtain ⟨g, off, rfl, hg, c0, c1, c2⟩ := tbl_fn (HF.out wr HT.out.fr) hkx
      have hnext : Hid (lc ++ (fs.take (k + 1)).map (·.name) = (lc ++ (fs.take k).map (·.name)) ++ [fs[k].name]) := Lib.hid (by rw [map_take_snoc _ hkx, List.append_assoc])
      have hl6 : (lc ++ (fs.take k).map (·.name)).length ≤ 41000 := by
        rw [List.length_append, List.length_map, List.length_take]
        omega
      obtain ⟨l2, hl2⟩ : ∃ l, Hid (l = lc ++ (fs.take (k + 1)).map (·.name)) := ⟨_, Lib.hid rfl⟩
      rw [← hl2.out] at hnext
      generalize (lc ++ (fs.take k).map (·.name)) = l1 at *
      generalize fs[k] = x at *
      obtain ⟨xn, xk, xr⟩ := x
      dsimp only at *
      have HT1 := Lib.hid (HT.out.on ((Fr.refl [] wr).alloc (.cells #[.string xn, .string xk, .string xr] 103)).all)
      have HX1 := Lib.hid (HX.out.alloc (.cells #[.string xn, .string xk, .string xr] 103))
      have HB1 := Lib.hid (Box.new wr 103 #[.string xn, .string xk, .string xr])
      have b0 := HB1.out.cell 0
      simp only [List.getElem?_toArray, List.getElem?_cons_zero, List.getElem?_cons_succ] at b0
      go_upto_region 7 with fail
      generalize hW : wr.alloc (.cells #[.string xn, .string xk, .string xr] 103) = W at *
      clear hW c0 c1 c2 HT HX
      generalize wr.heap.size = bm at *
      go_wp2_with (at_builtin; refine wpList_push rfl _ _ _ rfl (HT1.out.seg.alloc _) (by rw [List.length_map]) Tryz.underlying22 Hi.out Hz0.out Hz1.out Hz2.out rfl rfl rfl (new_cell _ _ _) rfl (by omega) (by omega) ?_; intro A4 cap4 w4 hs4 f4 hf4)
      have HT4 := Lib.hid (HT1.out.push hs4 f4 hf4)
      have HX4 := Lib.hid (HX1.out.push3 HT1.out f4)
      rw [← hnext.out] at HT4
      have hlz : Hid (l1.length + 1 = l2.length) := Lib.hid (by rw [hnext.out, List.length_append]; rfl)
      go_roundw
      case rel => exact ⟨k + 1, A4, cap4, by omega, by go_num, by rw [hlz.out, hl2.out], by rw [hl2.out] at HT4; exact HT4, HX4⟩
      case measure => simp [intOf]; omega
    · obtain rfl : nf = k := by omega
      have e1 : decide ((nf : Int) < (nf : Int)) = false := decide_eq_false (by omega)
      have hfull : Hid (lc ++ (fs.take nf).map (·.name) = lc ++ fs.map (·.name)) := Lib.hid (by rw [List.take_of_length_le (by rw [← hNf.out]; exact Nat.le_refl _)])
      have hlq : Hid ((lc ++ (fs.take nf).map (·.name)).length = (lc ++ fs.map (·.name)).length) := Lib.hid (congrArg List.length hfull.out)
      rw [hfull.out] at HT
      rw [hlq.out]
      have hld : (lc ++ fs.map (·.name)).length ≤ 41000 := by
        rw [List.length_append, List.length_map, ← hNf.out]
        omega
      clear hfull hlq
      generalize (lc ++ fs.map (·.name)) = ld at *
      have s2 := HX.out.2.cell 2
      simp only [List.getElem?_toArray, List.getElem?_cons_zero, List.getElem?_cons_succ] at s2
      have hl0 : Hid (ld = ld ++ adr (L.take 0)) := Lib.hid (by simp [adr])
      have hln : Hid (ld.length = (ld ++ adr (L.take 0)).length) := Lib.hid (congrArg List.length hl0.out)
      have Ti : Hid (TL w wr A cap (ld ++ adr (L.take 0))) := Lib.hid (by rw [← hl0.out]; exact HT.out)
      go_wp2_with fail
      clear s2 HT
      go_loopw [3, 29] (fun v i wx => ∃ (k : Nat) (A : Option Addr) (cap : Nat), k ≤ nc ∧ i = .int .i64 k ∧ v = .slice A (ld ++ adr (L.take k)).length cap ∧ Hid (TL w wx A cap (ld ++ adr (L.take k))) ∧ Hid (SR w wx #[.slice oA no oc, .slice fA nf fc, .slice cA nc cc])) (fun _ i _ => nc - (intOf i).toNat)
      case atStart => exact ⟨0, A, cap, by omega, rfl, by rw [← hln.out], Ti, HX⟩
      case round =>
        obtain ⟨k, A, cap, hk, rfl, rfl, HT, HX2⟩ := hrel
        clear Ti HX hln hl0
        rename World => wx
        have hl6 : (ld ++ adr (L.take k)).length ≤ 50000 := by
          have h1 := adr_len (L.take k)
          rw [List.length_take, hLn.out] at h1
          rw [List.length_append]
          omega
        by_cases hkl : k < nc
        · have e1 : decide ((k : Int) < (nc : Int)) = true := decide_eq_true (by omega)
          have hkx : k < cs.length := by rw [← hNc.out]; exact hkl
          have hkL : k < L.length := by rw [hLn.out]; exact hkl
          obtain ⟨g, off, rfl, hg, c0, c1, c2, c3, c4, c5⟩ := tbl_con (HC.out wx HT.out.fr) hkx
          have hLe : Hid (L[k] = cs[k].c) := Lib.hid (by
            have e : L[k]? = some cs[k].c := by rw [hL.out, List.getElem?_map, List.getElem?_eq_getElem hkx]; rfl
            rw [List.getElem?_eq_getElem hkL] at e
            exact Option.some.inj e)
          have hnext : Hid (ld ++ adr (L.take (k + 1)) = (ld ++ adr (L.take k)) ++ (if cs[k].c.op = 1 then [cs[k].c.b] else [])) := Lib.hid (by rw [adr_take hkL, List.append_assoc, hLe.out])
          clear hLe
          obtain ⟨l2, hl2⟩ : ∃ l, Hid (l = ld ++ adr (L.take (k + 1))) := ⟨_, Lib.hid rfl⟩
          rw [← hl2.out] at hnext
          generalize (ld ++ adr (L.take k)) = l1 at *
          generalize cs[k] = x at *
          obtain ⟨⟨xo, xa, xb, xk, xt, xg⟩, xA, xc⟩ := x
          dsimp only at *
          have HT1 := Lib.hid (HT.out.on ((Fr.refl [] wx).alloc (.cells #[.int .i64 xo, .string xa, .string xb, .int .i64 xk, .string xt, .slice xA xg.length xc] 105)).all)
          have HX1 := Lib.hid (HX2.out.alloc (.cells #[.int .i64 xo, .string xa, .string xb, .int .i64 xk, .string xt, .slice xA xg.length xc] 105))
          have HB1 := Lib.hid (Box.new wx 105 #[.int .i64 xo, .string xa, .string xb, .int .i64 xk, .string xt, .slice xA xg.length xc])
          have b0 := HB1.out.cell 0
          have b2 := HB1.out.cell 2
          simp only [List.getElem?_toArray, List.getElem?_cons_zero, List.getElem?_cons_succ] at b0 b2
          go_upto_region 12 with fail
          generalize hW : wx.alloc (.cells #[.int .i64 xo, .string xa, .string xb, .int .i64 xk, .string xt, .slice xA xg.length xc] 105) = W at *
          clear hW c0 c1 c2 c3 c4 c5 HT HX2
          generalize wx.heap.size = bm at *
          by_cases hop : xo = 1
          · have dop : (xo == 1) = true := by simpa using hop
            have hnx2 : Hid (l2 = l1 ++ [xb]) := Lib.hid (by rw [hnext.out, if_pos hop])
            clear hop hnext
            go_wp2_with (at_builtin; refine wpList_push rfl _ _ _ rfl (HT1.out.seg.alloc _) (by rw [List.length_map]) Tryz.underlying22 Hi.out Hz0.out Hz1.out Hz2.out rfl rfl rfl (new_cell _ _ _) rfl (by omega) (by omega) ?_; intro A4 cap4 w4 hs4 f4 hf4)
            have HT4 := Lib.hid (HT1.out.push hs4 f4 hf4)
            have HX4 := Lib.hid (HX1.out.push3 HT1.out f4)
            rw [← hnx2.out] at HT4
            have hlz : Hid (l1.length + 1 = l2.length) := Lib.hid (by rw [hnx2.out, List.length_append]; rfl)
            go_roundw
            case rel => exact ⟨k + 1, A4, cap4, by omega, by go_num, by rw [hlz.out, hl2.out], by rw [hl2.out] at HT4; exact HT4, HX4⟩
            case measure => simp [intOf]; omega
          · have dop : (xo == 1) = false := by simpa using hop
            have hnx2 : Hid (l2 = l1) := Lib.hid (by rw [hnext.out, if_neg hop, List.append_nil])
            clear hop hnext
            rw [← hnx2.out] at HT1
            have hlz : Hid (l1.length = l2.length) := Lib.hid (by rw [hnx2.out])
            go_wp2_with fail
            go_roundw
            case rel => exact ⟨k + 1, A, cap, by omega, by go_num, by rw [hlz.out, hl2.out], by rw [hl2.out] at HT1; exact HT1, HX1⟩
            case measure => simp [intOf]; omega
        · obtain rfl : nc = k := by omega
          have e1 : decide ((nc : Int) < (nc : Int)) = false := decide_eq_false (by omega)
          have hfull : Hid (L.take nc = L) := Lib.hid (List.take_of_length_le (by rw [hLn.out]; exact Nat.le_refl _))
          have hlq : Hid ((ld ++ adr (L.take nc)).length = (ld ++ adr L).length) := Lib.hid (by rw [hfull.out])
          rw [hfull.out] at HT hl6
          rw [hlq.out]
          have K6 := HR.out wx A cap (ld ++ adr L) HT.out.seg (by omega)
          rw [← hV2.out, List.length_append] at K6
          have H6 := Lib.hid K6
          clear K6 HR
          go_wp2_with fail
          refine H6.out.mono ?_
          rintro e w7 ⟨cap7, rfl, hr7, f7⟩
          have R7 := Lib.hid hr7.rd
          have B7 := Lib.hid (HT.out.fr.trans (f7.below (fun g hg => HT.out.own g hg) HT.out.fr.size))
          clear hr7 f7 H6
          go_wp2_with fail
          go_ret
          exact ⟨A, cap7, rfl, R7.out, B7.out⟩
end Go.Proofs.YtdmmkjijgoiecaaGreatDoor.sy

/-
  system: objects: the reference's.
-/
set_option linter.all false
namespace Go.Proofs.YtdmmkjijgoiecaaGreatDoor.sy
open Go.RowKit Go.Proofs.YtdmmkjijgoiecaaGreatDoor.mem
open Go.Proofs.YtdmmkjijgoiecaaGreatDoor.nm (Nd readB cand rread_no rread_yes ReadNo ReadYes)

theorem rread_obj (s : ByteArray) (hs : s.size ≤ maxLen) : ∃ (d : Nd) (e0 : Int), Hid (objB s = (decide (e0 = 0) && (decide (5 ≤ d.kind) && decide (d.cell < 0)))) ∧ ∀ w, Calls Tryz.prog 117 #[.string s] w (RdPost d e0 w) := by
  rcases hr : readB s with _ | _
  · have h1 : objB s = false := by
      unfold objB
      rw [hr]
      rfl
    have h2 : ∀ w, Calls Tryz.prog 117 #[.string s] w (ReadNo w) := fun w => rread_no s w hs hr
    rw [h1]
    obtain ⟨d, hd⟩ : ∃ d : Nd, d = ⟨0, ⟨#[]⟩, 0, ⟨#[]⟩, 0, 0⟩ := ⟨_, rfl⟩
    refine ⟨d, 11, Lib.hid rfl, fun w => ?_⟩
    have h := h2 w
    unfold RdPost
    rw [hd]
    unfold ReadNo at h
    exact h
  · have h1 : objB s = (decide ((0 : Int) = 0) && (decide (5 ≤ (cand s).kind) && decide ((cand s).cell < 0))) := by
      unfold objB
      rw [hr]
      rfl
    have h2 : ∀ w, Calls Tryz.prog 117 #[.string s] w fun e w' => e = .returned (.tuple #[(cand s).val, .int .i64 0]) ∧ Below w.heap.size w w' := fun w => rread_yes s w hs hr
    generalize cand s = d at h1 h2
    exact ⟨d, 0, Lib.hid h1, h2⟩

theorem mk_parts {ms : List Mk} {n k : Nat} (hk : k < ms.length) (hok : mksOk ms n k) : mkGood ms n k ms[k] ↔ (0 ≤ ms[k].at_ ∧ ms[k].at_ < n ∧ tagB ms[k].tag = true ∧ (0 < k → atOf ms k ≤ ms[k].at_) ∧ ms[k] ∉ ms.take k) := by
  rw [mk_step hk hok]
  constructor
  · rintro ⟨h1, h2, h3, h4⟩
    refine ⟨?_, h3, h4, fun _ => h2, h1⟩
    cases k with
    | zero => exact h2
    | succ q =>
      rw [atOf_succ (by omega)] at h2
      have := (hok q _ (by omega) (List.getElem?_eq_getElem (by omega))).1
      omega
  · rintro ⟨h1, h2, h3, h4, h5⟩
    refine ⟨h5, ?_, h2, h3⟩
    cases k with
    | zero => exact h1
    | succ q => exact h4 (by omega)

def RO (w wr : World) (xs : Array Value) : Prop := Below w.heap.size w wr ∧ Box wr w.heap.size 99 xs
theorem RO.on {w wr w2 : World} {xs : Array Value} (h : RO w wr xs) (hb : Below wr.heap.size wr w2) : RO w w2 xs := ⟨h.1.trans (hb.mono h.1.size), h.2.kept (Fr.of_below hb []) (by simp)⟩
theorem RO.new (w : World) (xs : Array Value) : RO w (w.alloc (.cells xs 99)) xs := ⟨((Fr.refl [] w).alloc _).all, Box.new w _ xs⟩
theorem RO.alloc {w wr : World} {xs : Array Value} (h : RO w wr xs) (o : Obj) : RO w (wr.alloc o) xs := h.on ((Fr.refl [] wr).alloc o).all
theorem RO.drewN {w wr : World} {xs : Array Value} (h : RO w wr xs) (i : Nat) : RO w (wr.drewN i) xs := h.on ((Fr.refl [] wr).drewN i).all

set_option maxHeartbeats 8000000 in
set_option maxRecDepth 100000 in
theorem robject_any (hm : HeldM) (x : MO) (w : World) (hx : MOk w x) : Calls Tryz.prog 114 #[.agg x.row.toArray] w (IPost (objE x.o) w) := by
  obtain ⟨d, e0, hob, hrd⟩ := rread_obj x.o.name hx.n
  have HD := Lib.hid hrd
  have HK := Lib.hid (fun w => rkinds_same x.o.kinds 1 64 w hx.k (by decide) (by decide))
  have HM := Lib.hid (fun w' (hb : Below w.heap.size w w') => hx.m.below hb)
  have HTs : Hid (∀ m ∈ x.o.marks, m.tag.size ≤ maxLen) := Lib.hid hx.mt
  have hml := hx.ml
  have hkl := hx.k
  unfold maxLen at hml hkl
  unfold RdPost at HD
  obtain ⟨⟨name, kinds, ms⟩, mA, mc⟩ := x
  obtain ⟨dk, df, dc, dn, dm, dl⟩ := d
  unfold MO.row
  rw [objE_eq]
  dsimp only at *
  clear hx hrd
  unfold IPost
  obtain ⟨n, hN⟩ : ∃ n, Hid (n = ms.length) := ⟨_, Lib.hid rfl⟩
  rw [← hN.out] at hml ⊢
  generalize kindsB kinds 1 64 = b2 at *
  rw [hob.out]
  obtain ⟨V, hV⟩ : ∃ V : Int, Hid (V = objI (decide (e0 = 0) && (decide (5 ≤ dk) && decide (dl < 0))) b2 (mksE ms kinds.size)) := ⟨_, Lib.hid rfl⟩
  rw [← hV.out]
  clear hob
  go_enter Tryz.func114, Tryz.ntmps114
  go_wp2_with fail
  refine (HD.out _).mono ?_
  rintro e w2 ⟨rfl, hb2⟩
  have X2 := Lib.hid (((RO.new w #[.string name, .string kinds, .slice mA n mc]).on hb2).alloc (.cells #[.int .i64 dk, .string df, .int .i64 dc, .string dn, .int .i64 dm, .int .i64 dl] 163))
  clear hb2 HD
  by_cases he : e0 = 0
  rotate_left
  · have d0 : (e0 != 0) = true := by simpa using he
    have q := Lib.hid (decide_eq_false he)
    clear he
    go_wp2_with fail
    go_ret
    exact ⟨congrArg (fun z => Ending.returned (.int .i64 z)) (show (11 : Int) = V by rw [hV.out, q.out]; rfl), X2.out.1⟩
  have d0 : (e0 != 0) = false := by simpa using he
  have q0 := Lib.hid (decide_eq_true he)
  clear he
  by_cases h5 : 5 ≤ dk
  rotate_left
  · have d1 : decide (dk < 5) = true := decide_eq_true (by omega)
    have q := Lib.hid (decide_eq_false h5)
    clear h5
    go_wp2_with fail
    go_ret
    exact ⟨congrArg (fun z => Ending.returned (.int .i64 z)) (show (11 : Int) = V by rw [hV.out, q0.out, q.out]; rfl), X2.out.1⟩
  have d1 : decide (dk < 5) = false := decide_eq_false (by omega)
  have q1 := Lib.hid (decide_eq_true h5)
  clear h5
  by_cases hl : dl < 0
  rotate_left
  · have d2 : decide (0 ≤ dl) = true := decide_eq_true (by omega)
    have q := Lib.hid (decide_eq_false hl)
    clear hl
    go_wp2_with fail
    go_ret
    exact ⟨congrArg (fun z => Ending.returned (.int .i64 z)) (show (11 : Int) = V by rw [hV.out, q0.out, q1.out, q.out]; rfl), X2.out.1⟩
  have d2 : decide (0 ≤ dl) = false := decide_eq_false (by omega)
  have hV1 : Hid (V = objI true b2 (mksE ms kinds.size)) := Lib.hid (by rw [hV.out, q0.out, q1.out, decide_eq_true hl]; rfl)
  clear hl q0 q1 hV
  have x1 := X2.out.2.cell 1
  simp only [List.getElem?_toArray, List.getElem?_cons_zero, List.getElem?_cons_succ] at x1
  go_wp2_with fail
  refine (HK.out _).mono ?_
  rintro e w3 ⟨rfl, h3⟩
  subst h3
  rcases b2 with _ | _
  · go_wp2_with fail
    go_ret
    exact ⟨congrArg (fun z => Ending.returned (.int .i64 z)) (show (5 : Int) = V by rw [hV1.out]; rfl), X2.out.1⟩
  have hV2 : Hid (V = mksE ms kinds.size) := Lib.hid (by rw [hV1.out]; rfl)
  clear hV1 x1 d0 d1 d2 HK
  have hok0 : Hid (mksOk ms kinds.size 0) := Lib.hid (fun i m hi _ => by omega)
  go_wp2_with fail
  go_loopw [5] (fun i wr => ∃ k : Nat, k ≤ n ∧ i = .int .i64 k ∧ Hid (mksOk ms kinds.size k) ∧ Hid (RO w wr #[.string name, .string kinds, .slice mA n mc])) (fun i _ => n - (intOf i).toNat)
  case atStart => exact ⟨0, by omega, rfl, hok0, X2⟩
  case round =>
    obtain ⟨k, hk, rfl, hok, HR1⟩ := hrel
    clear hok0 X2
    rename World => wr
    have y2 := HR1.out.2.cell 2
    simp only [List.getElem?_toArray, List.getElem?_cons_zero, List.getElem?_cons_succ] at y2
    by_cases hkl : k < n
    · have e1 : decide ((k : Int) < (n : Int)) = true := decide_eq_true (by omega)
      have hkm : k < ms.length := by rw [← hN.out]; exact hkl
      have HMr := HM.out wr HR1.out.1
      obtain ⟨g, off, rfl, hg, c0, c1⟩ := tbl_mk HMr hkm
      have hstep := Lib.hid (mk_parts hkm hok.out)
      have hbad := Lib.hid (fun h => mksE_no (mks_bad (n := kinds.size) hkm h))
      have hgood := Lib.hid (fun h => (mks_succ (n := kinds.size) hkm).2 ⟨hok.out, h⟩)
      have htl := HTs.out ms[k] (List.getElem_mem hkm)
      obtain ⟨m, hmk⟩ : ∃ m, ms[k] = m := ⟨_, rfl⟩
      rw [hmk] at hstep hbad htl c0 c1
      have HMK := Lib.hid hmk
      clear hmk
      obtain ⟨at_, tag⟩ := m
      dsimp only at *
      have htl2 : (tag.size : Int) ≤ 9223372036854775807 := by unfold maxLen at htl; omega
      clear htl
      have HR2 := Lib.hid (HR1.out.alloc (.cells #[.int .i64 at_, .string tag] 101))
      have HB2 := Lib.hid (Box.new wr 101 #[.int .i64 at_, .string tag])
      have HM2 := Lib.hid (HM.out _ HR2.out.1)
      go_wp2_with fail
      generalize hW : wr.alloc (.cells #[.int .i64 at_, .string tag] 101) = W at *
      have hlt := HR1.out.1.size
      clear hW c0 c1 y2 HMr
      generalize wr.heap.size = bm at *
      have z1 := HR2.out.2.cell 1
      have z2 := HR2.out.2.cell 2
      have m0 := HB2.out.cell 0
      have m1 := HB2.out.cell 1
      simp only [List.getElem?_toArray, List.getElem?_cons_zero, List.getElem?_cons_succ] at z1 z2 m0 m1
      by_cases h0 : at_ < 0
      · have d1 : decide (at_ < 0) = true := decide_eq_true h0
        have hv : Hid ((3 : Int) = V) := Lib.hid (by rw [hV2.out, hbad.out (fun h => absurd (hstep.out.1 h).1 (by omega))])
        clear hbad hgood hstep h0
        go_quiet (fail)
        go_wp2_with fail
        go_ret
        exact ⟨congrArg (fun z => Ending.returned (.int .i64 z)) hv.out, (HR2.out.drewN _).1⟩
      have d1 : decide (at_ < 0) = false := decide_eq_false h0
      have p1 := Lib.hid (Int.not_lt.1 h0)
      clear h0
      by_cases h0 : (kinds.size : Int) ≤ at_
      · have d2 : decide ((kinds.size : Int) ≤ at_) = true := decide_eq_true h0
        have hv : Hid ((3 : Int) = V) := Lib.hid (by rw [hV2.out, hbad.out (fun h => absurd (hstep.out.1 h).2.1 (by omega))])
        clear hbad hgood hstep h0
        go_quiet (fail)
        go_wp2_with fail
        go_ret
        exact ⟨congrArg (fun z => Ending.returned (.int .i64 z)) hv.out, (HR2.out.drewN _).1⟩
      have d2 : decide ((kinds.size : Int) ≤ at_) = false := decide_eq_false h0
      have p2 := Lib.hid (Int.not_le.1 h0)
      clear h0
      by_cases h0 : tag.size < 1
      · have d3 : decide ((tag.size : Int) < 1) = true := decide_eq_true (by omega)
        have hv : Hid ((3 : Int) = V) := Lib.hid (by rw [hV2.out, hbad.out (fun h => by have h9 := (hstep.out.1 h).2.2.1; unfold tagB at h9; simp at h9; omega)])
        clear hbad hgood hstep h0
        go_quiet (fail)
        go_wp2_with fail
        go_ret
        exact ⟨congrArg (fun z => Ending.returned (.int .i64 z)) hv.out, (HR2.out.drewN _).1⟩
      have d3 : decide ((tag.size : Int) < 1) = false := decide_eq_false (by omega)
      have p3 := Lib.hid h0
      clear h0
      by_cases h0 : 60 < tag.size
      · have d4 : decide ((60 : Int) < (tag.size : Int)) = true := decide_eq_true (by omega)
        have hv : Hid ((3 : Int) = V) := Lib.hid (by rw [hV2.out, hbad.out (fun h => by have h9 := (hstep.out.1 h).2.2.1; unfold tagB at h9; simp at h9; omega)])
        clear hbad hgood hstep h0
        go_quiet (fail)
        go_wp2_with fail
        go_ret
        exact ⟨congrArg (fun z => Ending.returned (.int .i64 z)) hv.out, (HR2.out.drewN _).1⟩
      have d4 : decide ((60 : Int) < (tag.size : Int)) = false := decide_eq_false (by omega)
      have p4 : Hid (tagB tag = true) := Lib.hid (by unfold tagB; rw [decide_eq_true (by have := p3.out; omega), decide_eq_true (by omega)]; rfl)
      clear h0 p3
      rcases Nat.eq_zero_or_pos k with hk0 | hk0
      · have d5 : decide (0 < k) = false := decide_eq_false (by omega)
        have p5 : Hid (0 < k → atOf ms k ≤ at_) := Lib.hid (fun h => by omega)
        go_quiet (fail)
        go_wp2_with fail
        go_loopw [7] (fun j wx => ∃ q : Nat, q ≤ k ∧ j = .int .i64 q ∧ Hid (¬ (⟨at_, tag⟩ : Mk) ∈ ms.take q) ∧ Hid (RO w wx #[.string name, .string kinds, .slice (some ⟨g, off, none⟩) n mc] ∧ Box wx bm 101 #[.int .i64 at_, .string tag])) (fun j _ => k - (intOf j).toNat)
        case atStart => exact ⟨0, by omega, rfl, Lib.hid (by simp), Lib.hid ⟨HR2.out.drewN _, HB2.out.kept ((Fr.refl [] W).drewN _) (by simp)⟩⟩
        case round =>
          obtain ⟨q, hq, rfl, hnm, hst⟩ := hrel
          rename World => wx
          clear z1 z2 m0 m1
          by_cases hqk : q < k
          · exfalso; omega
          · obtain rfl : q = k := by omega
            have e2 : decide (q < q) = false := decide_eq_false (by omega)
            have hok2 := Lib.hid (hgood.out (by rw [HMK.out]; exact hstep.out.2 ⟨p1.out, p2.out, p4.out, p5.out, hnm.out⟩))
            clear hbad hgood hstep HMK
            go_wp2_with fail
            go_roundw
            case rel => exact ⟨q + 1, by omega, by go_num, hok2, Lib.hid hst.out.1⟩
            case measure => simp [intOf]; omega
      · have d5 : decide (0 < k) = true := decide_eq_true hk0
        obtain ⟨m2, hm2⟩ : ∃ m2, m2 + 1 = k := ⟨k - 1, by omega⟩
        have hjm : (k : Int) - 1 = (m2 : Int) := by omega
        have hwm : IntKind.i64.wrap (m2 : Int) = (m2 : Int) := IntWalk.i64_in _ (by omega)
        have hm2m : m2 < ms.length := by omega
        have hm2n : m2 < n := by omega
        obtain ⟨g3, off3, e3, _, k0, k1⟩ := tbl_mk HM2.out hm2m
        injection e3 with e3
        injection e3 with e3 e4
        subst e3
        subst e4
        have hpv : Hid (atOf ms k = ms[m2].at_) := Lib.hid (by rw [← hm2]; exact atOf_succ hm2m)
        generalize ms[m2].at_ = pv at *
        clear k1 hm2
        by_cases h0 : at_ < pv
        · have d6 : decide (at_ < pv) = true := decide_eq_true h0
          have hv : Hid ((3 : Int) = V) := Lib.hid (by rw [hV2.out, hbad.out (fun h => by have h9 := (hstep.out.1 h).2.2.2.1 hk0; rw [hpv.out] at h9; omega)])
          clear hbad hgood hstep h0
          go_quiet (fail)
          go_wp2_with fail
          go_ret
          exact ⟨congrArg (fun z => Ending.returned (.int .i64 z)) hv.out, (HR2.out.drewN _).1⟩
        have d6 : decide (at_ < pv) = false := decide_eq_false h0
        have p5 : Hid (0 < k → atOf ms k ≤ at_) := Lib.hid (fun _ => by rw [hpv.out]; omega)
        clear h0 hpv
        go_quiet (fail)
        go_wp2_with fail
        clear k0 hjm hwm
        go_loopw [7] (fun j wx => ∃ q : Nat, q ≤ k ∧ j = .int .i64 q ∧ Hid (¬ (⟨at_, tag⟩ : Mk) ∈ ms.take q) ∧ Hid (RO w wx #[.string name, .string kinds, .slice (some ⟨g, off, none⟩) n mc] ∧ Box wx bm 101 #[.int .i64 at_, .string tag])) (fun j _ => k - (intOf j).toNat)
        case atStart => exact ⟨0, by omega, rfl, Lib.hid (by simp), Lib.hid ⟨HR2.out.drewN _, HB2.out.kept ((Fr.refl [] W).drewN _) (by simp)⟩⟩
        case round =>
          obtain ⟨q, hq, rfl, hnm, hst⟩ := hrel
          rename World => wx
          clear z1 z2 m0 m1
          by_cases hqk : q < k
          · have e2 : decide (q < k) = true := decide_eq_true hqk
            have z2 := hst.out.1.2.cell 2
            have m0 := hst.out.2.cell 0
            have m1 := hst.out.2.cell 1
            have hqm : q < ms.length := by omega
            obtain ⟨g3, off3, e3, _, k0, k1⟩ := tbl_mk (HM.out wx hst.out.1.1) hqm
            injection e3 with e3
            injection e3 with e3 e4
            subst e3
            subst e4
            simp only [List.getElem?_toArray, List.getElem?_cons_zero, List.getElem?_cons_succ] at z2 m0 m1
            have htk : Hid (ms.take (q + 1) = ms.take q ++ [ms[q]]) := Lib.hid (by rw [List.take_succ_eq_append_getElem hqm])
            have hin : Hid (ms[q] ∈ ms.take k) := Lib.hid (List.mem_take_iff_getElem.2 ⟨q, by omega, rfl⟩)
            have hqn : q < n := by omega
            generalize ms[q] = p at *
            have EQ := fun w => hm.eq p ⟨at_, tag⟩ w
            have GU := hm.guard
            rcases hs : sameMk p ⟨at_, tag⟩ with _ | _
            · have hne : Hid (p = ⟨at_, tag⟩ → False) := Lib.hid (fun e => by rw [sameMk_iff.2 e] at hs; cases hs)
              have hnm2 : Hid (¬ (⟨at_, tag⟩ : Mk) ∈ ms.take (q + 1)) := Lib.hid (fun h => by
                rw [htk.out] at h
                rcases List.mem_append.1 h with h | h
                · exact hnm.out h
                · exact hne.out (List.mem_singleton.1 h).symm)
              rw [hs] at EQ
              obtain ⟨pa, pt⟩ := p
              unfold mkV at EQ
              dsimp only at k0 k1 EQ
              clear hs htk hin hne hnm hqm
              go_wp2_with fail
              go_quiet (fail)
              go_wp2_with fail
              go_roundw
              case rel => exact ⟨q + 1, by omega, by go_num, hnm2, Lib.hid ⟨hst.out.1.drewN _, hst.out.2.kept ((Fr.refl [] wx).drewN _) (by simp)⟩⟩
              case measure => simp [intOf]; omega
            · have hpe := Lib.hid (sameMk_iff.1 hs)
              have hv : Hid ((3 : Int) = V) := Lib.hid (by rw [hV2.out, hbad.out (fun h => (hstep.out.1 h).2.2.2.2 (hpe.out ▸ hin.out))])
              rw [hs] at EQ
              obtain ⟨pa, pt⟩ := p
              unfold mkV at EQ
              dsimp only at k0 k1 EQ
              clear hs htk hin hpe hnm hqm hbad hgood hstep
              go_wp2_with fail
              go_quiet (fail)
              go_wp2_with fail
              go_ret
              exact ⟨congrArg (fun z => Ending.returned (.int .i64 z)) hv.out, (hst.out.1.drewN _).1⟩
          · obtain rfl : q = k := by omega
            have e2 : decide (q < q) = false := decide_eq_false (by omega)
            have hok2 := Lib.hid (hgood.out (by rw [HMK.out]; exact hstep.out.2 ⟨p1.out, p2.out, p4.out, p5.out, hnm.out⟩))
            clear hbad hgood hstep HMK
            go_wp2_with fail
            go_roundw
            case rel => exact ⟨q + 1, by omega, by go_num, hok2, Lib.hid hst.out.1⟩
            case measure => simp [intOf]; omega
    · obtain rfl : k = n := by omega
      have e1 : decide ((k : Int) < (k : Int)) = false := decide_eq_false (by omega)
      have hv : Hid ((0 : Int) = V) := Lib.hid (by rw [hV2.out, mksE_yes (by rw [← hN.out]; exact hok.out)])
      go_wp2_with fail
      go_ret
      exact ⟨congrArg (fun z => Ending.returned (.int .i64 z)) hv.out, HR1.out.1⟩
end Go.Proofs.YtdmmkjijgoiecaaGreatDoor.sy

/-
  system: the answers to the law's own little system, by computation.
-/
set_option linter.all false
namespace Go.Proofs.YtdmmkjijgoiecaaGreatDoor.sy
open Go.RowKit Go.Proofs.YtdmmkjijgoiecaaGreatDoor.mem
open Go.Proofs.YtdmmkjijgoiecaaGreatDoor.tx

/-- one object of two places, one constraint -/
def wO : SO := ⟨⟨#[103]⟩, ⟨#[105, 112]⟩, []⟩
def wC : SC := ⟨1, ⟨#[102, 46, 112]⟩, ⟨#[103, 43, 48]⟩, 0, ⟨#[]⟩, []⟩
def wS : SS := ⟨[wO], [], [wC]⟩

theorem wS_obj : objE wO = 0 := by
  unfold objE
  rw [if_neg (by rw [show objB wO.name = true from by kernel_rfl]; decide), if_neg (by rw [show kindsB wO.kinds 1 64 = true from by kernel_rfl]; decide), if_pos]
  intro i m hi
  exact absurd hi (Nat.not_lt_zero _)
theorem wS_con : conE wC = 0 := by kernel_rfl
theorem wS_check : checkE wS = 0 := by
  unfold checkE
  rw [if_neg (by decide)]
  have h1 : goE objE badO none wS.objs = 0 := by
    show goE objE badO none [wO] = 0
    rw [goE, if_pos wS_obj]
    rfl
  have h3 : goE conE badC none wS.cons = 0 := by
    show goE conE badC none [wC] = 0
    rw [goE, if_pos wS_con]
    rfl
  rw [h1, h3]
  rfl
theorem wS_nodes : nodesL wS = [⟨#[102, 46, 112]⟩, ⟨#[103, 43, 49]⟩] := by kernel_rfl
theorem wS_places : placesL wS = [⟨#[103, 43, 48]⟩, ⟨#[103, 43, 49]⟩, ⟨#[103, 43, 48]⟩] := by kernel_rfl
theorem wS_n : orNil (checkE wS) (nodesL wS) = [[102, 46, 112], [103, 43, 49]] := by
  rw [wS_check, wS_nodes]
  unfold orNil
  rw [if_pos rfl]
  kernel_rfl
theorem wS_p : orNil (checkE wS) (placesL wS) = [[103, 43, 48], [103, 43, 49]] := by
  rw [wS_check, wS_places]
  unfold orNil
  rw [if_pos rfl]
  kernel_rfl
end Go.Proofs.YtdmmkjijgoiecaaGreatDoor.sy
