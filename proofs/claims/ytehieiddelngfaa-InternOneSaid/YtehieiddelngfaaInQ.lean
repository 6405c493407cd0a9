/-
  intern: the law on numbers: a table and a list beside it.
-/
import Derived.Test.YtehieiddelngfaaInP
namespace Go.Proofs.Ytehieiddelngfaa.inn
open Go.RowKit Go.Shelf Go.Sort Go.Proofs.Ytehieiddelngfaa.mem

/-- things in the order in which they came first -/
def nubI (l : List Int) : List Int := l.foldl (fun m x => if x ∈ m then m else m ++ [x]) []

theorem nubI_snoc (l : List Int) (k : Nat) (hk : k < l.length) : nubI (l.take (k + 1)) = if l[k] ∈ nubI (l.take k) then nubI (l.take k) else nubI (l.take k) ++ [l[k]] := by
  rw [List.take_succ_eq_append_getElem hk]
  unfold nubI
  rw [List.foldl_append]
  rfl

theorem nubI_len (l : List Int) : (nubI l).length ≤ l.length := by
  have : ∀ (l m : List Int), (l.foldl (fun m x => if x ∈ m then m else m ++ [x]) m).length ≤ m.length + l.length := by
    intro l
    induction l with
    | nil => intro m; simp
    | cons x l ih =>
      intro m
      have h := ih (if x ∈ m then m else m ++ [x])
      have h2 : (if x ∈ m then m else m ++ [x]).length ≤ m.length + 1 := by split <;> simp
      simp only [List.foldl_cons, List.length_cons]
      omega
  have h := this l []
  simp only [List.length_nil, Nat.zero_add] at h
  exact h

theorem Tb.mono {w : World} {b : Nat} {A : Option Addr} {cap : Nat} {m : Option Nat} {N N' : Nat} {xs : List Int} (h : Tb w b A cap m N xs) (hN : N ≤ N') : Tb w b A cap m N' xs :=
  ⟨h.box, h.seg, h.set.mono hN, h.nod, h.wf, Nat.le_trans h.len hN⟩

/-- a table of the call's own, and a list of its own beside it -/
structure TN (w0 w : World) (b N : Nat) (xs ys : List Int) (B : Option Addr) (c : Nat) : Prop where
  ex : ∃ A cap m, Tb w b A cap m N xs ∧ (∀ g ∈ foot b A m, w0.heap.size ≤ g) ∧ (∀ g ∈ foot b A m, g ∉ blk B)
  on : Below w0.heap.size w0 w
  seg : Seg w 3 B c (vals ys)
  own : ∀ g ∈ blk B, w0.heap.size ≤ g

theorem TN.new (w : World) : TN w (w.alloc (.cells #[.map none, .slice none 0 0] 43)) w.heap.size 0 [] [] none 0 :=
  ⟨⟨none, 0, none, tb_new w, by simp [foot, blk], by simp [blk]⟩, (Below.refl _ w).alloc (Nat.le_refl _) _, Seg.nil _ _, by simp [blk]⟩

theorem tn_new {w0 w : World} {b N : Nat} {xs ys : List Int} {B : Option Addr} {c : Nat} (h : TN w0 w b N xs ys B c) (x : Int) (hx : WF x) (hin : x ∉ xs) (hN : N < 1000000) :
    Calls Try.prog 20 #[.pointer (some ⟨b, 0, none⟩), eI x] w fun e w' => e = .returned (.tuple #[.int .i64 (xs.length : Nat), .bool true]) ∧ TN w0 w' b (N + 1) (xs ++ [x]) ys B c := by
  obtain ⟨A, cap, m, ha, hf, hd⟩ := h.ex
  refine (put_any w b A cap m N xs x ha hx hin hN).mono ?_
  rintro e w' ⟨rfl, f, A', cap', m', ha', hf'⟩
  refine ⟨rfl, ⟨A', cap', m', ha', fun g hg => ?_, fun g hg hB => ?_⟩, on_fr h.on f hf h.on.size, h.seg.kept f (fun g hg hm => hd g hm hg), h.own⟩
  · rcases hf' g hg with h1 | h1
    · exact hf g h1
    · have := h.on.size; omega
  · rcases hf' g hg with h1 | h1
    · exact hd g h1 hB
    · have := h.seg.lt g hB; omega

theorem tn_old {w0 w : World} {b N : Nat} {xs ys : List Int} {B : Option Addr} {c : Nat} (h : TN w0 w b N xs ys B c) (x : Int) (hx : WF x) (hin : x ∈ xs) :
    Calls Try.prog 20 #[.pointer (some ⟨b, 0, none⟩), eI x] w fun e w' => e = .returned (.tuple #[.int .i64 (noOf xs x : Nat), .bool false]) ∧ TN w0 w' b (N + 1) xs ys B c := by
  obtain ⟨A, cap, m, ha, hf, hd⟩ := h.ex
  refine (put_old w b A cap m N xs x ha hx hin).mono ?_
  rintro e w' ⟨rfl, f⟩
  exact ⟨rfl, ⟨A, cap, m, (ha.kept (Fr.of_below f []) (by simp)).mono (by omega), hf, hd⟩, h.on.trans (f.mono h.on.size), h.seg.kept (Fr.of_below f []) (by simp), h.own⟩

theorem tn_len {w0 w : World} {b N : Nat} {xs ys : List Int} {B : Option Addr} {c : Nat} (h : TN w0 w b N xs ys B c) :
    Calls Try.prog 23 #[.pointer (some ⟨b, 0, none⟩)] w fun e w' => e = .returned (.int .i64 xs.length) ∧ w = w' := by
  obtain ⟨A, cap, m, ha, _⟩ := h.ex
  exact tlen_any w b A cap xs.length (.map m) ha.box

theorem tn_find {w0 w : World} {b N : Nat} {xs ys : List Int} {B : Option Addr} {c : Nat} (h : TN w0 w b N xs ys B c) (x : Int) (hx : WF x) :
    Calls Try.prog 22 #[.pointer (some ⟨b, 0, none⟩), eI x] w fun e w' => e = .returned (.tuple #[.int .i64 (noOf xs x : Nat), .bool (decide (x ∈ xs))]) ∧ w = w' := by
  obtain ⟨A, cap, m, ha, _⟩ := h.ex
  exact find_any w b m N xs x _ ha.box ha.set hx

theorem tn_push {w0 w w3 : World} {b N : Nat} {xs ys : List Int} {B A' : Option Addr} {c cap' : Nat} {o : Obj} (h : TN w0 w b N xs ys B c) (x : Int) (hs3 : Seg w3 3 A' cap' (vals ys ++ [eI x])) (b3 : Fr (blk B) (w.alloc o) w3) (hf3 : blk A' = blk B ∨ blk A' = [(w.alloc o).heap.size]) : TN w0 w3 b N xs (ys ++ [x]) A' cap' := by
  obtain ⟨A, cap, m, ha, hf, hd⟩ := h.ex
  have f : Fr (blk B) w w3 := ((Fr.refl (blk B) w).alloc o).trans b3 (fun g hg => Or.inl hg) (fun g hg => Or.inl hg)
  have hn : ∀ g ∈ blk A', g ∈ blk B ∨ w.heap.size ≤ g := by
    intro g hg
    rcases hf3 with e | e
    · exact Or.inl (e ▸ hg)
    · right
      rw [e, List.mem_singleton] at hg
      subst hg
      simp
  refine ⟨⟨A, cap, m, ha.kept f hd, hf, fun g hg hB => ?_⟩, on_fr h.on f h.own h.on.size, by rw [← vals_snoc]; exact hs3, fun g hg => ?_⟩
  · rcases hn g hB with h1 | h1
    · exact hd g hg h1
    · have := ha.lt g hg; omega
  · rcases hn g hg with h1 | h1
    · exact h.own g h1
    · have := h.on.size; omega
theorem tn_at {w0 w : World} {b N : Nat} {xs ys : List Int} {B : Option Addr} {c : Nat} (h : TN w0 w b N xs ys B c) (k : Nat) (hk : k < xs.length) (hm : xs.length ≤ 1000) :
    Calls Try.prog 21 #[.pointer (some ⟨b, 0, none⟩), .int .i64 k] w fun e w' => e = .returned (.tuple #[eI xs[k], .bool true]) ∧ w = w' := by
  obtain ⟨A, cap, m, ha, _⟩ := h.ex
  exact at_i w b A cap xs k _ ha.box ha.seg.rd hk hm

theorem fold_prefix : ∀ (l m : List Int), m <+: l.foldl (fun m x => if x ∈ m then m else m ++ [x]) m
  | [], m => List.prefix_refl m
  | x :: l, m => by
    refine List.IsPrefix.trans ?_ (fold_prefix l _)
    show m <+: if x ∈ m then m else m ++ [x]
    split
    · exact List.prefix_refl m
    · exact List.prefix_append m [x]

theorem nubI_prefix (l : List Int) (k : Nat) : nubI (l.take k) <+: nubI l := by
  have : nubI l = (l.drop k).foldl (fun m x => if x ∈ m then m else m ++ [x]) (nubI (l.take k)) := by
    unfold nubI
    rw [← List.foldl_append, List.take_append_drop]
  rw [this]
  exact fold_prefix _ _

theorem noOf_prefix {M M' : List Int} (h : M <+: M') {x : Int} (hx : x ∈ M) : noOf M' x = noOf M x := by
  obtain ⟨t, rfl⟩ := h
  unfold noOf
  rw [if_pos hx, if_pos (by simp [hx]), List.idxOf_append, if_pos hx]

theorem mem_nubI (l : List Int) (x : Int) (h : x ∈ l) : x ∈ nubI l := by
  have key : ∀ (l m : List Int), (x ∈ m ∨ x ∈ l) → x ∈ l.foldl (fun m x => if x ∈ m then m else m ++ [x]) m := by
    intro l
    induction l with
    | nil => intro m h; simpa using h
    | cons y l ih =>
      intro m h
      refine ih _ ?_
      rcases h with h | h
      · left
        show x ∈ if y ∈ m then m else m ++ [y]
        split
        · exact h
        · simp [h]
      · rcases List.mem_cons.1 h with rfl | h
        · left
          show x ∈ if x ∈ m then m else m ++ [x]
          split
          · assumption
          · simp
        · exact Or.inr h
  exact key l [] (Or.inr h)

theorem noOf_get {M : List Int} {x : Int} (hx : x ∈ M) : ∃ h : noOf M x < M.length, M[noOf M x] = x := by
  unfold noOf
  simp only [if_pos hx]
  exact ⟨List.idxOf_lt_length_of_mem hx, List.getElem_idxOf (List.idxOf_lt_length_of_mem hx)⟩

/-- what Put answers of the k-th thing -/
theorem put_no (l : List Int) (k : Nat) (hk : k < l.length) (hin : l[k] ∉ nubI (l.take k)) : noOf (nubI l) l[k] = (nubI (l.take k)).length := by
  have h := nubI_prefix l (k + 1)
  have hs := nubI_snoc l k hk
  rw [if_neg hin] at hs
  rw [hs] at h
  rw [noOf_prefix h (by simp), noOf_snoc_new hin]

theorem rsI_nodup_len {xs : List Int} (h : xs.Nodup) : (rsI xs).length = xs.length := by
  have hp := (intoAll_spec ordI xs).1
  have nl : (rsI xs).Nodup := hp.imp (fun {a b} hab e => by subst e; exact ordI.irr _ hab)
  exact ((List.perm_ext_iff_of_nodup nl h).2 (mem_rsI xs)).length_eq

/-- between two things that are told -/
structure JI (w W : World) (S bs s : Nat) (rs pre : List Int) : Prop where
  on : Below w.heap.size w W
  bg : ∃ g, Box W (S + 1 + 1) 4 #[.bool g] ∧ (pre <+: rs → g = true)
  bt : Box W S 3 #[.int .i64 pre.length]
  bl : Box W (S + 1) 3 #[.int .i64 (pre.getLast?.getD 0)]
  bs : Box W bs 3 #[.int .i64 s]

theorem JI.grown {w W W' : World} {S bs s : Nat} {rs pre : List Int} {row : Option Nat} (h : JI w W S bs s rs pre) (hg : W.grownBy W' row) (hr : ∀ r, row = some r → w.heap.size ≤ r ∧ ∃ o : Obj, W.heap[r]? = some o ∧ o.isCells = false) : JI w W' S bs s rs pre := by
  have hr2 : ∀ r, row = some r → ∃ o : Obj, W.heap[r]? = some o ∧ o.isCells = false := fun r e => (hr r e).2
  obtain ⟨g, hb, hp⟩ := h.bg
  exact ⟨h.on.grown hg h.on.size (fun k e => (hr k e).1), ⟨g, box_grown hb hg hr2, hp⟩, box_grown h.bt hg hr2, box_grown h.bl hg hr2, box_grown h.bs hg hr2⟩

theorem rises_step {rs pre : List Int} {x : Int} (hr : rs.Pairwise (fun a b => a < b)) (h : pre ++ [x] <+: rs) : pre.length = 0 ∨ pre.getLast?.getD 0 < x := by
  rcases List.eq_nil_or_concat pre with rfl | ⟨q, y, rfl⟩
  · exact Or.inl rfl
  · right
    obtain ⟨t, rfl⟩ := h
    have h1 := (List.pairwise_append.1 hr).1
    have h2 := (List.pairwise_append.1 h1).2.2 y (by simp) x (by simp)
    simpa using h2

theorem JI.step {w W : World} {S bs s : Nat} {rs pre : List Int} {x : Int} {g : Bool} (h : JI w W S bs s rs pre) (hg : Box W (S + 1 + 1) 4 #[.bool g]) (hp : pre <+: rs → g = true) (hrs : rs.Pairwise (fun a b => a < b)) (hwb : w.heap.size ≤ S) (hbs : bs < S) :
    Fr [S + 1 + 1, S + 1, S] W (((W.setCell ⟨S + 1 + 1, 0, none⟩ (.bool (onB g pre.length (pre.getLast?.getD 0) x))).setCell ⟨S + 1, 0, none⟩ (.int .i64 x)).setCell ⟨S, 0, none⟩ (.int .i64 ((pre.length : Int) + 1))) ∧
    JI w (((W.setCell ⟨S + 1 + 1, 0, none⟩ (.bool (onB g pre.length (pre.getLast?.getD 0) x))).setCell ⟨S + 1, 0, none⟩ (.int .i64 x)).setCell ⟨S, 0, none⟩ (.int .i64 ((pre.length : Int) + 1))) S bs s rs (pre ++ [x]) := by
  obtain ⟨R, hR⟩ : ∃ R, R = onB g pre.length (pre.getLast?.getD 0) x := ⟨_, rfl⟩
  rw [← hR]
  obtain ⟨w1, e1⟩ : ∃ w1, w1 = W.setCell ⟨S + 1 + 1, 0, none⟩ (.bool R) := ⟨_, rfl⟩
  obtain ⟨w2, e2⟩ : ∃ w2, w2 = w1.setCell ⟨S + 1, 0, none⟩ (.int .i64 x) := ⟨_, rfl⟩
  rw [← e1, ← e2]
  have f1 : Fr [S + 1 + 1] W w1 := by rw [e1]; exact (Fr.refl [S + 1 + 1] W).setCell (p := ⟨S + 1 + 1, 0, none⟩) (Or.inl (by simp)) _
  have f2 : Fr [S + 1] w1 w2 := by rw [e2]; exact (Fr.refl [S + 1] w1).setCell (p := ⟨S + 1, 0, none⟩) (Or.inl (by simp)) _
  have f3 : Fr [S] w2 (w2.setCell ⟨S, 0, none⟩ (.int .i64 ((pre.length : Int) + 1))) := (Fr.refl [S] w2).setCell (p := ⟨S, 0, none⟩) (Or.inl (by simp)) _
  have f : Fr [S + 1 + 1, S + 1, S] W (w2.setCell ⟨S, 0, none⟩ (.int .i64 ((pre.length : Int) + 1))) := (f1.trans f2 (G := [S + 1 + 1, S + 1]) (by simp) (by simp)).trans f3 (by simp) (by simp)
  have g1 : Box w1 (S + 1 + 1) 4 #[.bool R] := by rw [e1]; exact hg.put 0 _
  have g3 := (g1.kept f2 (by simp <;> omega)).kept f3 (by simp <;> omega)
  have l2 : Box w2 (S + 1) 3 #[.int .i64 x] := by rw [e2]; exact (h.bl.kept f1 (by simp <;> omega)).put 0 _
  have l3 := l2.kept f3 (by simp <;> omega)
  have t2 : Box w2 S 3 #[.int .i64 pre.length] := (h.bt.kept f1 (by simp <;> omega)).kept f2 (by simp <;> omega)
  have t3 : Box (w2.setCell ⟨S, 0, none⟩ (.int .i64 ((pre.length : Int) + 1))) S 3 #[.int .i64 ((pre.length : Int) + 1)] := t2.put 0 _
  refine ⟨f, ⟨h.on.trans (f.below (by simp <;> omega) h.on.size), ⟨R, g3, fun hpx => ?_⟩, ?_, ?_, h.bs.kept f (by simp <;> omega)⟩⟩
  · have hpre : pre <+: rs := (List.prefix_append pre [x]).trans hpx
    rw [hR, hp hpre]
    rcases rises_step hrs hpx with h0 | h0
    · simp [onB, h0]
    · unfold onB; rw [decide_eq_true h0]; simp
  · rw [List.length_append, List.length_singleton, Int.natCast_add]
    exact t3
  · simpa using l3
end Go.Proofs.Ytehieiddelngfaa.inn
