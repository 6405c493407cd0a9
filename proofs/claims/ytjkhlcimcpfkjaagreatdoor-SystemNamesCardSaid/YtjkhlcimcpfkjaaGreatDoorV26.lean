import Derived.Test.YtjkhlcimcpfkjaaGreatDoorV16
import Derived.Test.YtjkhlcimcpfkjaaGreatDoorUSy9
import Derived.Test.YtjkhlcimcpfkjaaGreatDoorV25
import Derived.Test.YtjkhlcimcpfkjaaGreatDoorV29
import Derived.Test.YtjkhlcimcpfkjaaGreatDoorUSy4
import Derived.Deep.RegionHeld3
import Derived.Lib.QuietBelow
/-
  system: a constraint as it comes in; the sign of a number.
-/
set_option linter.all false
namespace Go.Proofs.YtjkhlcimcpfkjaaGreatDoor.sy
open Go.RowKit Go.Sort Go.ChangeShapes Go.WideShapes Go.Proofs.YtjkhlcimcpfkjaaGreatDoor.mem

set_option maxRecDepth 100000 in
theorem con_of {H : Type} {enc : TypeId × Value → H} {W : World} {B base : Nat} (v : Value) (d : DataW H) (p : List MemPlace) (k : DataW.Trod enc Tryz.prog W 0 (fun _ => true) true 36 v d p) (o : Value.okWide Tryz.prog W .any base 36 v) (hw : ∀ m ∈ d.weights Tryz.prog 36, m ≤ B) :
    ∃ x : MC, v = .agg x.row.toArray ∧ CQ W B x := by
  obtain ⟨cs, rfl, hcs⟩ := okWide_struct uCo o
  have h6 : cs.size = 6 := hcs.trans cCo
  obtain ⟨fuel, hk⟩ := k
  obtain ⟨l⟩ := cs
  obtain ⟨x, rfl, hx⟩ := con_el fuel l (d, p) hk h6 hw
  exact ⟨x, rfl, hx⟩

def Tri (x : Int) : Prop := x = -1 ∨ x = 0 ∨ x = 1
theorem tri_int (a b : Int) : Tri (intC a b) := by
  unfold intC Tri
  split
  · exact Or.inl rfl
  · split
    · exact Or.inr (Or.inr rfl)
    · exact Or.inr (Or.inl rfl)
theorem tri_txt (a b : ByteArray) : Tri (txtC a b) := by
  unfold txtC Tri
  cases lessB a b
  · cases lessB b a
    · exact Or.inr (Or.inl rfl)
    · exact Or.inr (Or.inr rfl)
  · exact Or.inl rfl
theorem tri_fst : ∀ l : List Int, (∀ x ∈ l, Tri x) → Tri (fstN l)
  | [], _ => Or.inr (Or.inl rfl)
  | x :: r, h => by
    unfold fstN
    split
    · exact tri_fst r fun y hy => h y (List.mem_cons_of_mem _ hy)
    · exact h x List.mem_cons_self
theorem tri_zip : ∀ (l m : List ByteArray) (x : Int), x ∈ List.zipWith txtC l m → Tri x
  | [], _, x, h => by simp at h
  | _ :: _, [], x, h => by simp at h
  | a :: l, b :: m, x, h => by
    rw [List.zipWith_cons_cons] at h
    rcases List.mem_cons.1 h with rfl | h
    · exact tri_txt _ _
    · exact tri_zip l m x h
theorem tri_con (a b : SC) : Tri (conC a b) := by
  rw [conC_zip]
  refine tri_fst _ fun x hx => ?_
  simp only [List.mem_append, List.mem_cons, List.not_mem_nil, or_false] at hx
  rcases hx with ((rfl | rfl | rfl | rfl | rfl) | hx) | rfl
  · exact tri_int _ _
  · exact tri_txt _ _
  · exact tri_txt _ _
  · exact tri_int _ _
  · exact tri_txt _ _
  · exact tri_zip _ _ _ hx
  · exact tri_int _ _

theorem intC_self (a : Int) : intC a a = 0 := by
  unfold intC
  rw [if_neg (Int.lt_irrefl a), if_neg (Int.lt_irrefl a)]
theorem txtC_self (a : ByteArray) : txtC a a = 0 := by
  have h : lessB a a = false := by
    unfold lessB
    rw [bytesLess_eq]
    simp [List.lt_irrefl]
  unfold txtC
  rw [h]
  rfl
theorem zipC_self : ∀ l : List ByteArray, fstN (List.zipWith txtC l l ++ [0]) = 0
  | [] => rfl
  | a :: l => by
    rw [List.zipWith_cons_cons, txtC_self]
    exact zipC_self l
theorem conC_self (a : SC) : conC a a = 0 := by
  rw [conC_zip, intC_self, intC_self, intC_self, txtC_self, txtC_self, txtC_self, List.append_assoc]
  exact zipC_self a.args

set_option maxRecDepth 100000 in
theorem sign_any (x : Int) (hx : Tri x) (w : World) : Calls Tryz.prog 21 #[.int .i64 x] w (SPost x w) := by
  unfold SPost
  rcases hx with rfl | rfl | rfl
  all_goals
    go_enter Tryz.func21, Tryz.ntmps21
    go_wp2_with fail
    go_ret
    exact ⟨rfl, rfl⟩
end Go.Proofs.YtjkhlcimcpfkjaaGreatDoor.sy

/-
  system: nodes, places, and which constraint stands ahead: the law of them.
-/
set_option linter.all false
namespace Go.Proofs.YtjkhlcimcpfkjaaGreatDoor.sy
open Go.RowKit Go.Sort Go.Proofs.YtjkhlcimcpfkjaaGreatDoor.mem
open Go.Proofs.YtjkhlcimcpfkjaaGreatDoor.nm (Tab tab_below)

/-- two constraints of the call's own -/
structure NW (w wr : World) (xs ys : Array Value) : Prop where
  fr : Below w.heap.size w wr
  x : Box wr w.heap.size 36 xs
  y : Box wr (w.heap.size + 1) 36 ys
theorem NW.on {w wr w2 : World} {xs ys : Array Value} (h : NW w wr xs ys) (hb : Below wr.heap.size wr w2) : NW w w2 xs ys :=
  ⟨h.fr.trans (hb.mono h.fr.size), h.x.kept (Fr.of_below hb []) (by simp), h.y.kept (Fr.of_below hb []) (by simp)⟩
theorem NW.new (w : World) (xs ys : Array Value) : NW w ((w.alloc (.cells xs 36)).alloc (.cells ys 36)) xs ys := by
  refine ⟨(((Fr.refl [] w).alloc _).alloc _).all, (Box.new w _ xs).kept ((Fr.refl [] _).alloc _) (by simp), ?_⟩
  have := Box.new (w.alloc (.cells xs 36)) 36 ys
  rwa [show (w.alloc (.cells xs 36)).heap.size = w.heap.size + 1 by simp] at this
theorem NW.alloc {w wr : World} {xs ys : Array Value} (h : NW w wr xs ys) (o : Obj) : NW w (wr.alloc o) xs ys := h.on ((Fr.refl [] wr).alloc o).all
theorem NW.drew {w wr : World} {xs ys : Array Value} (h : NW w wr xs ys) : NW w wr.drew xs ys := h.on (Fr.refl [] wr).drew.all
theorem NW.twelve {w v : World} {a0 a1 a2 a3 a4 a5 b0 b1 b2 b3 b4 b5 : Value} (h : NW w v #[a0, a1, a2, a3, a4, a5] #[b0, b1, b2, b3, b4, b5]) :
    (v.cell? ⟨w.heap.size, 0, none⟩ = some a0 ∧ v.cell? ⟨w.heap.size, 1, none⟩ = some a1 ∧ v.cell? ⟨w.heap.size, 2, none⟩ = some a2 ∧ v.cell? ⟨w.heap.size, 3, none⟩ = some a3 ∧ v.cell? ⟨w.heap.size, 4, none⟩ = some a4 ∧ v.cell? ⟨w.heap.size, 5, none⟩ = some a5) ∧
    v.cell? ⟨w.heap.size + 1, 0, none⟩ = some b0 ∧ v.cell? ⟨w.heap.size + 1, 1, none⟩ = some b1 ∧ v.cell? ⟨w.heap.size + 1, 2, none⟩ = some b2 ∧ v.cell? ⟨w.heap.size + 1, 3, none⟩ = some b3 ∧ v.cell? ⟨w.heap.size + 1, 4, none⟩ = some b4 ∧ v.cell? ⟨w.heap.size + 1, 5, none⟩ = some b5 :=
  ⟨⟨h.x.cell 0, h.x.cell 1, h.x.cell 2, h.x.cell 3, h.x.cell 4, h.x.cell 5⟩, h.y.cell 0, h.y.cell 1, h.y.cell 2, h.y.cell 3, h.y.cell 4, h.y.cell 5⟩

theorem tbl_two {w : World} {g sz : Nat} {t : TypeId} {r1 r2 : List Value} (h1 : r1.length = sz) (h : Box w g t (r1 ++ r2).toArray) : Tbl w (some ⟨g, 0, none⟩) sz [r1, r2] := fun _ => by
  refine ⟨g, 0, rfl, h.lt, fun j hj i v hv => ?_⟩
  have hj2 : j < 2 := by simpa using hj
  have hc := h.cell (j * sz + i)
  rw [List.getElem?_toArray] at hc
  rw [show 0 + j * sz + i = j * sz + i by omega, hc]
  rcases j with _ | _ | j
  · have hi : i < r1.length := (List.getElem?_eq_some_iff.1 hv).1
    rw [Nat.zero_mul, Nat.zero_add, List.getElem?_append_left hi]
    exact hv
  · rw [List.getElem?_append_right (by omega)]
    rw [show (0 + 1) * sz + i - r1.length = i by omega]
    exact hv
  · omega

/-- two constraints as a system -/
def twoM (g : Nat) (x y : MC) : MS := ⟨none, 0, [], none, 0, [], some ⟨g, 0, none⟩, 2, [x, y]⟩
theorem twoM_ok {W : World} {g : Nat} {x y : MC} (h : Box W g 36 (x.row ++ y.row).toArray) (hx : COk W x) (hy : COk W y) : SysM W (twoM g x y) where
  o := tbl_none
  f := tbl_none
  c := tbl_two rfl h
  ok q hq := absurd hq (by simp [twoM])
  fk q hq := absurd hq (by simp [twoM])
  ck q hq := by
    have hq : q ∈ [x, y] := hq
    simp only [List.mem_cons, List.not_mem_nil, or_false] at hq
    rcases hq with rfl | rfl
    · exact hx
    · exact hy
  ol := show 0 ≤ maxLen by decide
  fl := show 0 ≤ maxLen by decide
  cl := show 2 ≤ maxLen by decide
theorem great_two (x y : MC) (w W : World) (g : Nat) (hx : COk w x) (hy : COk w y) (hb : Below w.heap.size w W) (h : Box W g 36 (x.row ++ y.row).toArray) :
    Calls Tryz.prog 8 #[.agg #[.slice none 0 0, .slice none 0 0, .slice (some ⟨g, 0, none⟩) 2 2], .int .i64 2] W (BPost (greatB ⟨[], [], [x.c, y.c]⟩ 2) W) :=
  great_any (twoM g x y) 2 W (twoM_ok h (hx.below hb) (hy.below hb))
end Go.Proofs.YtjkhlcimcpfkjaaGreatDoor.sy

/-
  system: nodes, places, and which constraint stands ahead: the law of them.
-/
set_option linter.all false
namespace Go.Proofs.YtjkhlcimcpfkjaaGreatDoor.sy
open Go.RowKit Go.Sort Go.Proofs.YtjkhlcimcpfkjaaGreatDoor.mem
open Go.Proofs.YtjkhlcimcpfkjaaGreatDoor.nm (Tab tab_below)

set_option maxHeartbeats 4000000 in
set_option maxRecDepth 100000 in
theorem names_long (s : ByteArray) (x y : MC) (w : World) (hs : s.size ≤ maxLen) (hl : 300 < s.size) : Calls Tryz.prog 4 #[.string s, .agg x.row.toArray, .agg y.row.toArray] w (BPost true w) := by
  unfold maxLen at hs
  unfold BPost
  obtain ⟨⟨op, a, b, k, tag, args⟩, aA, ac⟩ := x
  obtain ⟨⟨op2, a2, b2, k2, tag2, args2⟩, aA2, ac2⟩ := y
  unfold MC.row
  dsimp only
  generalize args.length = n at *
  generalize args2.length = n2 at *
  have e0 : decide ((300 : Int) < (s.size : Int)) = true := decide_eq_true (by omega)
  go_enter Tryz.func4, Tryz.ntmps4
  have X0 := Lib.hid (NW.new w #[.int .i64 op, .string a, .string b, .int .i64 k, .string tag, .slice aA n ac] #[.int .i64 op2, .string a2, .string b2, .int .i64 k2, .string tag2, .slice aA2 n2 ac2])
  go_wp2_with fail
  go_ret
  exact ⟨rfl, X0.out.fr⟩

set_option maxHeartbeats 4000000 in
set_option maxRecDepth 100000 in
theorem names_great (s : ByteArray) (x y : MC) (w : World) (hs : s.size ≤ maxLen) (hx : COk w x) (hy : COk w y) (hl : s.size ≤ 300) (hg : greatB ⟨[], [], [x.c, y.c]⟩ 2 = true) : Calls Tryz.prog 4 #[.string s, .agg x.row.toArray, .agg y.row.toArray] w (BPost true w) := by
  unfold maxLen at hs
  have HG := Lib.hid (fun W g hb h => great_two x y w W g hx hy hb h)
  rw [hg] at HG
  unfold BPost at HG ⊢
  clear hg hx hy
  obtain ⟨⟨op, a, b, k, tag, args⟩, aA, ac⟩ := x
  obtain ⟨⟨op2, a2, b2, k2, tag2, args2⟩, aA2, ac2⟩ := y
  unfold MC.row at HG ⊢
  dsimp only at HG ⊢
  generalize args.length = n at *
  generalize args2.length = n2 at *
  have e0 : decide ((300 : Int) < (s.size : Int)) = false := decide_eq_false (by omega)
  go_enter Tryz.func4, Tryz.ntmps4
  have X0 := Lib.hid (NW.new w #[.int .i64 op, .string a, .string b, .int .i64 k, .string tag, .slice aA n ac] #[.int .i64 op2, .string a2, .string b2, .int .i64 k2, .string tag2, .slice aA2 n2 ac2])
  have T := X0.out.twelve
  obtain ⟨⟨x0, x1, x2, x3, x4, x5⟩, y0, y1, y2, y3, y4, y5⟩ := T
  go_upto_region 1 with fail
  generalize hW0 : World.alloc (World.alloc w _) _ = w0 at *
  clear hW0
  have B1 := Lib.hid (Box.new w0 36 #[.int .i64 op, .string a, .string b, .int .i64 k, .string tag, .slice aA n ac, .int .i64 op2, .string a2, .string b2, .int .i64 k2, .string tag2, .slice aA2 n2 ac2])
  have X1 := Lib.hid (X0.out.alloc (.cells #[.int .i64 op, .string a, .string b, .int .i64 k, .string tag, .slice aA n ac, .int .i64 op2, .string a2, .string b2, .int .i64 k2, .string tag2, .slice aA2 n2 ac2] 36))
  go_wp2_with (refine (HG.out _ _ X1.out.fr B1.out).mono ?_; rintro e v1 ⟨rfl, b1⟩; have X2 := Lib.hid (X1.out.on b1); clear HG X0 X1 b1 B1 x0 x1 x2 x3 x4 x5 y0 y1 y2 y3 y4 y5)
  go_ret
  exact ⟨rfl, X2.out.fr⟩
end Go.Proofs.YtjkhlcimcpfkjaaGreatDoor.sy

/-
  system: nodes, places, and which constraint stands ahead: the law of them.
-/
set_option linter.all false
namespace Go.Proofs.YtjkhlcimcpfkjaaGreatDoor.sy
open Go.RowKit Go.Sort Go.ChangeShapes Go.WideShapes Go.Proofs.YtjkhlcimcpfkjaaGreatDoor.mem
open Go.Proofs.YtjkhlcimcpfkjaaGreatDoor.nm (Tab tab_below)

set_option maxHeartbeats 8000000 in
set_option maxRecDepth 100000 in
theorem names_small (s : ByteArray) (x y : MC) (w : World) (hs : s.size ≤ maxLen) (hx : COk w x) (hy : COk w y) (hnx : x.c.args.length ≤ 8796093022208) (hny : y.c.args.length ≤ 8796093022208) (htab : Tab w) (hl : s.size ≤ 300) (hg : greatB ⟨[], [], [x.c, y.c]⟩ 2 = false) : Calls Tryz.prog 4 #[.string s, .agg x.row.toArray, .agg y.row.toArray] w (BPost true w) := by
  have HN := Lib.hid (fun W (hb : Below w.heap.size w W) => node_any s W hs (tab_below htab hb))
  have HRN := Lib.hid (fun W => rnode_any s W hs)
  have HP := Lib.hid (fun W (hb : Below w.heap.size w W) => place_any s W hs (tab_below htab hb))
  have HRP := Lib.hid (fun W => rplace_any s W hs)
  have HC := Lib.hid (fun W (hb : Below w.heap.size w W) => compare_any x y W (hx.below hb) (hy.below hb))
  have HS := Lib.hid (fun W => sign_any (conC x.c y.c) (tri_con _ _) W)
  have HRC := Lib.hid (fun W (hb : Below w.heap.size w W) => rcompare_any x y W (hx.below hb) (hy.below hb) hnx hny)
  have HC2 := Lib.hid (fun W (hb : Below w.heap.size w W) => compare_any x x W (hx.below hb) (hx.below hb))
  rw [conC_self] at HC2
  have HW := Lib.hid (fun W (hb : Below w.heap.size w W) => works_any W (tab_below htab hb))
  have HG := Lib.hid (fun W g hb h => great_two x y w W g hx hy hb h)
  rw [hg] at HG
  unfold maxLen at hs
  unfold BPost at HN HRN HP HRP HW HG ⊢
  unfold IPost at HC HRC HC2
  unfold SPost at HS
  clear hg hx hy htab hnx hny
  generalize conC x.c y.c = z at *
  generalize nodeB s = nb at *
  generalize placeB s = pb at *
  obtain ⟨⟨op, a, b, k, tag, args⟩, aA, ac⟩ := x
  obtain ⟨⟨op2, a2, b2, k2, tag2, args2⟩, aA2, ac2⟩ := y
  unfold MC.row at HG HC HRC HC2 ⊢
  dsimp only at HG HC HRC HC2 ⊢
  generalize args.length = n at *
  generalize args2.length = n2 at *
  have e0 : decide ((300 : Int) < (s.size : Int)) = false := decide_eq_false (by omega)
  have d1 : (nb == nb) = true := by simp
  have d2 : (pb == pb) = true := by simp
  have d3 : (z == z) = true := by simp
  go_enter Tryz.func4, Tryz.ntmps4
  have X0 := Lib.hid (NW.new w #[.int .i64 op, .string a, .string b, .int .i64 k, .string tag, .slice aA n ac] #[.int .i64 op2, .string a2, .string b2, .int .i64 k2, .string tag2, .slice aA2 n2 ac2])
  have T := X0.out.twelve
  obtain ⟨⟨x0, x1, x2, x3, x4, x5⟩, y0, y1, y2, y3, y4, y5⟩ := T
  go_upto_region 1 with fail
  generalize hW0 : World.alloc (World.alloc w _) _ = w0 at *
  clear hW0
  have B1 := Lib.hid (Box.new w0 36 #[.int .i64 op, .string a, .string b, .int .i64 k, .string tag, .slice aA n ac, .int .i64 op2, .string a2, .string b2, .int .i64 k2, .string tag2, .slice aA2 n2 ac2])
  have X1 := Lib.hid (X0.out.alloc (.cells #[.int .i64 op, .string a, .string b, .int .i64 k, .string tag, .slice aA n ac, .int .i64 op2, .string a2, .string b2, .int .i64 k2, .string tag2, .slice aA2 n2 ac2] 36))
  go_wp2_with (refine (HG.out _ _ X1.out.fr B1.out).mono ?_; rintro e v1 ⟨rfl, b1⟩; have X2 := Lib.hid (X1.out.on b1); clear HG X0 X1 b1 B1 x0 x1 x2 x3 x4 x5 y0 y1 y2 y3 y4 y5)
  obtain ⟨S, hSd⟩ : ∃ S : World → Prop, Hid (∀ w', S w' ↔ ((w'.cell? ⟨w.heap.size, 0, none⟩ = some (.int .i64 op) ∧ w'.cell? ⟨w.heap.size, 1, none⟩ = some (.string a) ∧ w'.cell? ⟨w.heap.size, 2, none⟩ = some (.string b) ∧ w'.cell? ⟨w.heap.size, 3, none⟩ = some (.int .i64 k) ∧ w'.cell? ⟨w.heap.size, 4, none⟩ = some (.string tag) ∧ w'.cell? ⟨w.heap.size, 5, none⟩ = some (.slice aA n ac)) ∧
      w'.cell? ⟨w.heap.size + 1, 0, none⟩ = some (.int .i64 op2) ∧ w'.cell? ⟨w.heap.size + 1, 1, none⟩ = some (.string a2) ∧ w'.cell? ⟨w.heap.size + 1, 2, none⟩ = some (.string b2) ∧ w'.cell? ⟨w.heap.size + 1, 3, none⟩ = some (.int .i64 k2) ∧ w'.cell? ⟨w.heap.size + 1, 4, none⟩ = some (.string tag2) ∧ w'.cell? ⟨w.heap.size + 1, 5, none⟩ = some (.slice aA2 n2 ac2))) := ⟨_, Lib.hid fun _ => Iff.rfl⟩
  have hS2 := (hSd.out _).2 X2.out.drew.twelve
  refine wp_region_held_drew (S := S) (by kernel_rfl) hS2 (fun _ => ?_)
  refine wpAnyH_take (i := 0) (v := (.string s)) rfl (by kernel_rfl) (by kernel_rfl) (by kernel_rfl) (fun _ _ _ h => h) (Or.inl ⟨by kernel_rfl, ?_⟩) hS2 ?_
  · intro W' hSw
    obtain ⟨⟨x0, x1, x2, x3, x4, x5⟩, y0, y1, y2, y3, y4, y5⟩ := (hSd.out _).1 hSw
    go_simp
  try change wpAnyH _ _ _ _ _ _ _ (Act.put _ (some 17) _) _
  try simp only [Act.put, List.setIfInBounds_toArray, List.set_cons_zero, List.set_cons_succ]
  refine wpAnyH_take (i := 2) (v := (.string s)) rfl (by kernel_rfl) (by kernel_rfl) (by kernel_rfl) (fun _ _ _ h => h) (Or.inl ⟨by kernel_rfl, ?_⟩) hS2 ?_
  · intro W' hSw
    obtain ⟨⟨x0, x1, x2, x3, x4, x5⟩, y0, y1, y2, y3, y4, y5⟩ := (hSd.out _).1 hSw
    go_simp
  try change wpAnyH _ _ _ _ _ _ _ (Act.put _ (some 19) _) _
  try simp only [Act.put, List.setIfInBounds_toArray, List.set_cons_zero, List.set_cons_succ]
  refine wpAnyH_ready (rs := [1]) (by kernel_rfl) (by simp) ?_
  refine AllReadyH.cons rfl (fun K hK => ?_) AllReadyH.nil
  go_simp
  refine (HN.out _ X2.out.drew.fr).mono ?_; rintro e v3 ⟨rfl, b3⟩; have X3 := Lib.hid (X2.out.drew.on b3); clear HN b3
  have hS3 := (hSd.out _).2 X3.out.twelve
  refine hK.out _ _ hS3 (fun _ => ?_)
  clear hK
  try simp only [Act.put, List.setIfInBounds_toArray, List.set_cons_zero, List.set_cons_succ]
  refine wpAnyH_ready (rs := [3]) (by kernel_rfl) (by simp) ?_
  refine AllReadyH.cons rfl (fun K hK => ?_) AllReadyH.nil
  go_simp
  refine (HRN.out _).mono ?_; rintro e v4 ⟨rfl, b4⟩; have X4 := Lib.hid (X3.out.on b4); clear HRN b4
  have hS4 := (hSd.out _).2 X4.out.twelve
  refine hK.out _ _ hS4 (fun _ => ?_)
  clear hK
  try simp only [Act.put, List.setIfInBounds_toArray, List.set_cons_zero, List.set_cons_succ]
  refine wpAnyH_take (i := 4) (v := (.bool true)) rfl (by kernel_rfl) (by kernel_rfl) (by kernel_rfl) (fun _ _ _ h => h) (Or.inl ⟨by kernel_rfl, ?_⟩) hS4 ?_
  · intro W' hSw
    obtain ⟨⟨x0, x1, x2, x3, x4, x5⟩, y0, y1, y2, y3, y4, y5⟩ := (hSd.out _).1 hSw
    go_simp
  try change wpAnyH _ _ _ _ _ _ _ (Act.put _ (some 21) _) _
  try simp only [Act.put, List.setIfInBounds_toArray, List.set_cons_zero, List.set_cons_succ]
  refine wpAnyH_take (i := 5) (v := (.bool true)) rfl (by kernel_rfl) (by kernel_rfl) (by kernel_rfl) (fun _ _ _ h => h) (Or.inl ⟨by kernel_rfl, ?_⟩) hS4 ?_
  · intro W' hSw
    obtain ⟨⟨x0, x1, x2, x3, x4, x5⟩, y0, y1, y2, y3, y4, y5⟩ := (hSd.out _).1 hSw
    go_simp
  try change wpAnyH _ _ _ _ _ _ _ (Act.put _ (some 22) _) _
  try simp only [Act.put, List.setIfInBounds_toArray, List.set_cons_zero, List.set_cons_succ]
  refine wpAnyH_take (i := 6) (v := (.string s)) rfl (by kernel_rfl) (by kernel_rfl) (by kernel_rfl) (fun _ _ _ h => h) (Or.inl ⟨by kernel_rfl, ?_⟩) hS4 ?_
  · intro W' hSw
    obtain ⟨⟨x0, x1, x2, x3, x4, x5⟩, y0, y1, y2, y3, y4, y5⟩ := (hSd.out _).1 hSw
    go_simp
  try change wpAnyH _ _ _ _ _ _ _ (Act.put _ (some 23) _) _
  try simp only [Act.put, List.setIfInBounds_toArray, List.set_cons_zero, List.set_cons_succ]
  refine wpAnyH_take (i := 8) (v := (.string s)) rfl (by kernel_rfl) (by kernel_rfl) (by kernel_rfl) (fun _ _ _ h => h) (Or.inl ⟨by kernel_rfl, ?_⟩) hS4 ?_
  · intro W' hSw
    obtain ⟨⟨x0, x1, x2, x3, x4, x5⟩, y0, y1, y2, y3, y4, y5⟩ := (hSd.out _).1 hSw
    go_simp
  try change wpAnyH _ _ _ _ _ _ _ (Act.put _ (some 25) _) _
  try simp only [Act.put, List.setIfInBounds_toArray, List.set_cons_zero, List.set_cons_succ]
  refine wpAnyH_ready (rs := [7]) (by kernel_rfl) (by simp) ?_
  refine AllReadyH.cons rfl (fun K hK => ?_) AllReadyH.nil
  go_simp
  refine (HP.out _ X4.out.fr).mono ?_; rintro e v5 ⟨rfl, b5⟩; have X5 := Lib.hid (X4.out.on b5); clear HP b5
  have hS5 := (hSd.out _).2 X5.out.twelve
  refine hK.out _ _ hS5 (fun _ => ?_)
  clear hK
  try simp only [Act.put, List.setIfInBounds_toArray, List.set_cons_zero, List.set_cons_succ]
  refine wpAnyH_ready (rs := [9]) (by kernel_rfl) (by simp) ?_
  refine AllReadyH.cons rfl (fun K hK => ?_) AllReadyH.nil
  go_simp
  refine (HRP.out _).mono ?_; rintro e v6 ⟨rfl, b6⟩; have X6 := Lib.hid (X5.out.on b6); clear HRP b6
  have hS6 := (hSd.out _).2 X6.out.twelve
  refine hK.out _ _ hS6 (fun _ => ?_)
  clear hK
  try simp only [Act.put, List.setIfInBounds_toArray, List.set_cons_zero, List.set_cons_succ]
  refine wpAnyH_take (i := 10) (v := (.bool true)) rfl (by kernel_rfl) (by kernel_rfl) (by kernel_rfl) (fun _ _ _ h => h) (Or.inl ⟨by kernel_rfl, ?_⟩) hS6 ?_
  · intro W' hSw
    obtain ⟨⟨x0, x1, x2, x3, x4, x5⟩, y0, y1, y2, y3, y4, y5⟩ := (hSd.out _).1 hSw
    go_simp
  try change wpAnyH _ _ _ _ _ _ _ (Act.put _ (some 27) _) _
  try simp only [Act.put, List.setIfInBounds_toArray, List.set_cons_zero, List.set_cons_succ]
  refine wpAnyH_take (i := 11) (v := (.bool true)) rfl (by kernel_rfl) (by kernel_rfl) (by kernel_rfl) (fun _ _ _ h => h) (Or.inl ⟨by kernel_rfl, ?_⟩) hS6 ?_
  · intro W' hSw
    obtain ⟨⟨x0, x1, x2, x3, x4, x5⟩, y0, y1, y2, y3, y4, y5⟩ := (hSd.out _).1 hSw
    go_simp
  try change wpAnyH _ _ _ _ _ _ _ (Act.put _ (some 28) _) _
  try simp only [Act.put, List.setIfInBounds_toArray, List.set_cons_zero, List.set_cons_succ]
  refine wpAnyH_take (i := 12) (v := (.bool true)) rfl (by kernel_rfl) (by kernel_rfl) (by kernel_rfl) (fun _ _ _ h => h) (Or.inl ⟨by kernel_rfl, ?_⟩) hS6 ?_
  · intro W' hSw
    obtain ⟨⟨x0, x1, x2, x3, x4, x5⟩, y0, y1, y2, y3, y4, y5⟩ := (hSd.out _).1 hSw
    go_simp
  try change wpAnyH _ _ _ _ _ _ _ (Act.put _ (some 29) _) _
  try simp only [Act.put, List.setIfInBounds_toArray, List.set_cons_zero, List.set_cons_succ]
  refine wpAnyH_take (i := 13) (v := (.agg #[.int .i64 op, .string a, .string b, .int .i64 k, .string tag, .slice aA n ac])) rfl (by kernel_rfl) (by kernel_rfl) (by kernel_rfl) (fun _ _ _ h => h) (Or.inl ⟨by kernel_rfl, ?_⟩) hS6 ?_
  · intro W' hSw
    obtain ⟨⟨x0, x1, x2, x3, x4, x5⟩, y0, y1, y2, y3, y4, y5⟩ := (hSd.out _).1 hSw
    go_simp
  try change wpAnyH _ _ _ _ _ _ _ (Act.put _ (some 30) _) _
  try simp only [Act.put, List.setIfInBounds_toArray, List.set_cons_zero, List.set_cons_succ]
  refine wpAnyH_take (i := 14) (v := (.agg #[.int .i64 op2, .string a2, .string b2, .int .i64 k2, .string tag2, .slice aA2 n2 ac2])) rfl (by kernel_rfl) (by kernel_rfl) (by kernel_rfl) (fun _ _ _ h => h) (Or.inl ⟨by kernel_rfl, ?_⟩) hS6 ?_
  · intro W' hSw
    obtain ⟨⟨x0, x1, x2, x3, x4, x5⟩, y0, y1, y2, y3, y4, y5⟩ := (hSd.out _).1 hSw
    go_simp
  try change wpAnyH _ _ _ _ _ _ _ (Act.put _ (some 31) _) _
  try simp only [Act.put, List.setIfInBounds_toArray, List.set_cons_zero, List.set_cons_succ]
  refine wpAnyH_take (i := 17) (v := (.agg #[.int .i64 op, .string a, .string b, .int .i64 k, .string tag, .slice aA n ac])) rfl (by kernel_rfl) (by kernel_rfl) (by kernel_rfl) (fun _ _ _ h => h) (Or.inl ⟨by kernel_rfl, ?_⟩) hS6 ?_
  · intro W' hSw
    obtain ⟨⟨x0, x1, x2, x3, x4, x5⟩, y0, y1, y2, y3, y4, y5⟩ := (hSd.out _).1 hSw
    go_simp
  try change wpAnyH _ _ _ _ _ _ _ (Act.put _ (some 34) _) _
  try simp only [Act.put, List.setIfInBounds_toArray, List.set_cons_zero, List.set_cons_succ]
  refine wpAnyH_take (i := 18) (v := (.agg #[.int .i64 op2, .string a2, .string b2, .int .i64 k2, .string tag2, .slice aA2 n2 ac2])) rfl (by kernel_rfl) (by kernel_rfl) (by kernel_rfl) (fun _ _ _ h => h) (Or.inl ⟨by kernel_rfl, ?_⟩) hS6 ?_
  · intro W' hSw
    obtain ⟨⟨x0, x1, x2, x3, x4, x5⟩, y0, y1, y2, y3, y4, y5⟩ := (hSd.out _).1 hSw
    go_simp
  try change wpAnyH _ _ _ _ _ _ _ (Act.put _ (some 35) _) _
  try simp only [Act.put, List.setIfInBounds_toArray, List.set_cons_zero, List.set_cons_succ]
  refine wpAnyH_ready (rs := [15]) (by kernel_rfl) (by simp) ?_
  refine AllReadyH.cons rfl (fun K hK => ?_) AllReadyH.nil
  go_simp
  refine (HC.out _ X6.out.fr).mono ?_; rintro e v7 ⟨rfl, b7⟩; have X7 := Lib.hid (X6.out.on b7); clear HC b7
  have hS7 := (hSd.out _).2 X7.out.twelve
  refine hK.out _ _ hS7 (fun _ => ?_)
  clear hK
  try simp only [Act.put, List.setIfInBounds_toArray, List.set_cons_zero, List.set_cons_succ]
  refine wpAnyH_ready (rs := [16]) (by kernel_rfl) (by simp) ?_
  refine AllReadyH.cons rfl (fun K hK => ?_) AllReadyH.nil
  go_simp
  refine (HS.out _).mono ?_; rintro e v7b ⟨rfl, rfl⟩
  refine hK.out _ _ hS7 (fun _ => ?_)
  clear hK HS
  try simp only [Act.put, List.setIfInBounds_toArray, List.set_cons_zero, List.set_cons_succ]
  refine wpAnyH_ready (rs := [19]) (by kernel_rfl) (by simp) ?_
  refine AllReadyH.cons rfl (fun K hK => ?_) AllReadyH.nil
  go_simp
  refine (HRC.out _ X7.out.fr).mono ?_; rintro e v8 ⟨rfl, b8⟩; have X8 := Lib.hid (X7.out.on b8); clear HRC b8
  have hS8 := (hSd.out _).2 X8.out.twelve
  refine hK.out _ _ hS8 (fun _ => ?_)
  clear hK
  try simp only [Act.put, List.setIfInBounds_toArray, List.set_cons_zero, List.set_cons_succ]
  refine wpAnyH_take (i := 20) (v := (.bool true)) rfl (by kernel_rfl) (by kernel_rfl) (by kernel_rfl) (fun _ _ _ h => h) (Or.inl ⟨by kernel_rfl, ?_⟩) hS8 ?_
  · intro W' hSw
    obtain ⟨⟨x0, x1, x2, x3, x4, x5⟩, y0, y1, y2, y3, y4, y5⟩ := (hSd.out _).1 hSw
    go_simp
  try change wpAnyH _ _ _ _ _ _ _ (Act.put _ (some 37) _) _
  try simp only [Act.put, List.setIfInBounds_toArray, List.set_cons_zero, List.set_cons_succ]
  refine wpAnyH_take (i := 21) (v := (.bool true)) rfl (by kernel_rfl) (by kernel_rfl) (by kernel_rfl) (fun _ _ _ h => h) (Or.inl ⟨by kernel_rfl, ?_⟩) hS8 ?_
  · intro W' hSw
    obtain ⟨⟨x0, x1, x2, x3, x4, x5⟩, y0, y1, y2, y3, y4, y5⟩ := (hSd.out _).1 hSw
    go_simp
  try change wpAnyH _ _ _ _ _ _ _ (Act.put _ (some 38) _) _
  try simp only [Act.put, List.setIfInBounds_toArray, List.set_cons_zero, List.set_cons_succ]
  refine wpAnyH_take (i := 22) (v := (.bool true)) rfl (by kernel_rfl) (by kernel_rfl) (by kernel_rfl) (fun _ _ _ h => h) (Or.inl ⟨by kernel_rfl, ?_⟩) hS8 ?_
  · intro W' hSw
    obtain ⟨⟨x0, x1, x2, x3, x4, x5⟩, y0, y1, y2, y3, y4, y5⟩ := (hSd.out _).1 hSw
    go_simp
  try change wpAnyH _ _ _ _ _ _ _ (Act.put _ (some 39) _) _
  try simp only [Act.put, List.setIfInBounds_toArray, List.set_cons_zero, List.set_cons_succ]
  refine wpAnyH_take (i := 23) (v := (.agg #[.int .i64 op, .string a, .string b, .int .i64 k, .string tag, .slice aA n ac])) rfl (by kernel_rfl) (by kernel_rfl) (by kernel_rfl) (fun _ _ _ h => h) (Or.inl ⟨by kernel_rfl, ?_⟩) hS8 ?_
  · intro W' hSw
    obtain ⟨⟨x0, x1, x2, x3, x4, x5⟩, y0, y1, y2, y3, y4, y5⟩ := (hSd.out _).1 hSw
    go_simp
  try change wpAnyH _ _ _ _ _ _ _ (Act.put _ (some 40) _) _
  try simp only [Act.put, List.setIfInBounds_toArray, List.set_cons_zero, List.set_cons_succ]
  refine wpAnyH_take (i := 24) (v := (.agg #[.int .i64 op, .string a, .string b, .int .i64 k, .string tag, .slice aA n ac])) rfl (by kernel_rfl) (by kernel_rfl) (by kernel_rfl) (fun _ _ _ h => h) (Or.inl ⟨by kernel_rfl, ?_⟩) hS8 ?_
  · intro W' hSw
    obtain ⟨⟨x0, x1, x2, x3, x4, x5⟩, y0, y1, y2, y3, y4, y5⟩ := (hSd.out _).1 hSw
    go_simp
  try change wpAnyH _ _ _ _ _ _ _ (Act.put _ (some 41) _) _
  try simp only [Act.put, List.setIfInBounds_toArray, List.set_cons_zero, List.set_cons_succ]
  refine wpAnyH_ready (rs := [25]) (by kernel_rfl) (by simp) ?_
  refine AllReadyH.cons rfl (fun K hK => ?_) AllReadyH.nil
  go_simp
  refine (HC2.out _ X8.out.fr).mono ?_; rintro e v9 ⟨rfl, b9⟩; have X9 := Lib.hid (X8.out.on b9); clear HC2 b9
  have hS9 := (hSd.out _).2 X9.out.twelve
  refine hK.out _ _ hS9 (fun _ => ?_)
  clear hK
  try simp only [Act.put, List.setIfInBounds_toArray, List.set_cons_zero, List.set_cons_succ]
  refine wpAnyH_take (i := 26) (v := (.bool true)) rfl (by kernel_rfl) (by kernel_rfl) (by kernel_rfl) (fun _ _ _ h => h) (Or.inl ⟨by kernel_rfl, ?_⟩) hS9 ?_
  · intro W' hSw
    obtain ⟨⟨x0, x1, x2, x3, x4, x5⟩, y0, y1, y2, y3, y4, y5⟩ := (hSd.out _).1 hSw
    go_simp
  try change wpAnyH _ _ _ _ _ _ _ (Act.put _ (some 43) _) _
  try simp only [Act.put, List.setIfInBounds_toArray, List.set_cons_zero, List.set_cons_succ]
  refine wpAnyH_take (i := 27) (v := (.bool true)) rfl (by kernel_rfl) (by kernel_rfl) (by kernel_rfl) (fun _ _ _ h => h) (Or.inl ⟨by kernel_rfl, ?_⟩) hS9 ?_
  · intro W' hSw
    obtain ⟨⟨x0, x1, x2, x3, x4, x5⟩, y0, y1, y2, y3, y4, y5⟩ := (hSd.out _).1 hSw
    go_simp
  try change wpAnyH _ _ _ _ _ _ _ (Act.put _ (some 44) _) _
  try simp only [Act.put, List.setIfInBounds_toArray, List.set_cons_zero, List.set_cons_succ]
  refine wpAnyH_take (i := 28) (v := (.bool true)) rfl (by kernel_rfl) (by kernel_rfl) (by kernel_rfl) (fun _ _ _ h => h) (Or.inl ⟨by kernel_rfl, ?_⟩) hS9 ?_
  · intro W' hSw
    obtain ⟨⟨x0, x1, x2, x3, x4, x5⟩, y0, y1, y2, y3, y4, y5⟩ := (hSd.out _).1 hSw
    go_simp
  try change wpAnyH _ _ _ _ _ _ _ (Act.put _ (some 45) _) _
  try simp only [Act.put, List.setIfInBounds_toArray, List.set_cons_zero, List.set_cons_succ]
  refine wpAnyH_ready (rs := [29]) (by kernel_rfl) (by simp) ?_
  refine AllReadyH.cons rfl (fun K hK => ?_) AllReadyH.nil
  go_simp
  refine (HW.out _ X9.out.fr).mono ?_; rintro e v10 ⟨rfl, b10⟩; have X10 := Lib.hid (X9.out.on b10); clear HW b10
  have hS10 := (hSd.out _).2 X10.out.twelve
  refine hK.out _ _ hS10 (fun _ => ?_)
  clear hK
  try simp only [Act.put, List.setIfInBounds_toArray, List.set_cons_zero, List.set_cons_succ]
  refine wpAnyH_take (i := 30) (v := (.bool true)) rfl (by kernel_rfl) (by kernel_rfl) (by kernel_rfl) (fun _ _ _ h => h) (Or.inl ⟨by kernel_rfl, ?_⟩) hS10 ?_
  · intro W' hSw
    obtain ⟨⟨x0, x1, x2, x3, x4, x5⟩, y0, y1, y2, y3, y4, y5⟩ := (hSd.out _).1 hSw
    go_simp
  try change wpAnyH _ _ _ _ _ _ _ (Act.put _ (some 47) _) _
  try simp only [Act.put, List.setIfInBounds_toArray, List.set_cons_zero, List.set_cons_succ]
  refine wpAnyH_take (i := 31) (v := (.bool true)) rfl (by kernel_rfl) (by kernel_rfl) (by kernel_rfl) (fun _ _ _ h => h) (Or.inl ⟨by kernel_rfl, ?_⟩) hS10 ?_
  · intro W' hSw
    obtain ⟨⟨x0, x1, x2, x3, x4, x5⟩, y0, y1, y2, y3, y4, y5⟩ := (hSd.out _).1 hSw
    go_simp
  try change wpAnyH _ _ _ _ _ _ _ (Act.put _ (some 6) _) _
  try simp only [Act.put, List.setIfInBounds_toArray, List.set_cons_zero, List.set_cons_succ]
  refine wpAnyH_done (by kernel_rfl) ?_ _
  go_wp2_with fail
  go_ret
  exact ⟨rfl, X10.out.fr⟩

theorem law_names (s : ByteArray) (x y : MC) (w : World) (hs : s.size ≤ maxLen) (hx : COk w x) (hy : COk w y) (hnx : x.c.args.length ≤ 8796093022208) (hny : y.c.args.length ≤ 8796093022208) (htab : Tab w) : Calls Tryz.prog 4 #[.string s, .agg x.row.toArray, .agg y.row.toArray] w (BPost true w) := by
  by_cases hl : s.size ≤ 300
  · rcases hg : greatB ⟨[], [], [x.c, y.c]⟩ 2 with _ | _
    · exact names_small s x y w hs hx hy hnx hny htab hl hg
    · exact names_great s x y w hs hx hy hl hg
  · exact names_long s x y w hs (by omega)

set_option maxRecDepth 100000 in
theorem pf_names (H : Type) (enc : TypeId × Value → H) (W : World) {base : Nat} (s : ByteArray) (hs : s.size ≤ maxLen) (_ : s.size ≤ reachBytes)
    (v1 : Value) (d1 : DataW H) (p1 : List MemPlace) (k1 : DataW.Trod enc Tryz.prog W 0 (fun _ => true) true 36 v1 d1 p1) (o1 : Value.okWide Tryz.prog W .any base 36 v1) (hw1 : ∀ n ∈ d1.weights Tryz.prog 36, n ≤ reachBytes)
    (v2 : Value) (d2 : DataW H) (p2 : List MemPlace) (k2 : DataW.Trod enc Tryz.prog W 0 (fun _ => true) true 36 v2 d2 p2) (o2 : Value.okWide Tryz.prog W .any base 36 v2) (hw2 : ∀ n ∈ d2.weights Tryz.prog 36, n ≤ reachBytes) (htab : Tab W) :
    Calls Tryz.prog 4 #[.string s, v1, v2] W (BPost true W) := by
  obtain ⟨x, rfl, hx, lx⟩ := con_of v1 d1 p1 k1 o1 hw1
  obtain ⟨y, rfl, hy, ly⟩ := con_of v2 d2 p2 k2 o2 hw2
  have hr : reachBytes ≤ 140737488355328 := of_decide_eq_true (by kernel_rfl)
  have lx := Nat.le_trans lx hr
  have ly := Nat.le_trans ly hr
  exact law_names s x y W hs hx hy (by generalize x.c.args.length = n at lx ⊢; clear hw1 hw2 hr ly; omega) (by generalize y.c.args.length = n at ly ⊢; clear hw1 hw2 hr lx; omega) htab
end Go.Proofs.YtjkhlcimcpfkjaaGreatDoor.sy
