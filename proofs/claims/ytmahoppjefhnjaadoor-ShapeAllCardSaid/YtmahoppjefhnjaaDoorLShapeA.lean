/-
  Shape: the law of cells without a gap, of arguments as they come in.
-/
import Derived.Test.YtmahoppjefhnjaaDoorShZ
import Derived.Test.YtmahoppjefhnjaaDoorLShape
namespace Go.Proofs.YtmahoppjefhnjaaDoor.sh
open Go.RowKit Go.Sort Go.Proofs.YtmahoppjefhnjaaDoor.mem Go.ChangeShapes Go.WideShapes

/-- a slice that is read: each element's cells -/
theorem sl_of {P : Program} {t e : TypeId} {H : Type} {enc : TypeId × Value → H} {W : World} (hu : P.underlying t = some (.slice e)) {N : Nat} (hc : P.cellsOf e = N) (hN : 0 < N) {n : Nat} {cs : List Value} {y : DataW H × List MemPlace} (h : DataW.trod enc P W 0 (fun _ => true) true n t cs = some y) :
    cs = [.slice none 0 0] ∨ ∃ a len cap q, cs = [.slice (some a) len cap] ∧ n = q + 1 ∧ len ≤ maxLen ∧ ∀ i, i < len → ∃ cs' : List Value, cs'.length = N ∧ (∀ j (hj : j < cs'.length), W.cell? (a.add (i * N + j)) = some cs'[j]) ∧ ∃ y', DataW.trod enc P W 0 (fun _ => true) true q e cs' = some y' := by
  subst hc
  rcases DataW.trod_slice hu h with ⟨hcs, _⟩ | ⟨a, len, cap, elems, rest, q, hq, hcs, _, _, hle, hcap, hel, hat, _⟩
  · exact Or.inl hcs
  · refine Or.inr ⟨a, len, cap, q, hcs, hq, by omega, fun i hi => ?_⟩
    have hh := hat i hi
    rw [List.getElem?_eq_getElem (by omega)] at hh
    obtain ⟨cs', h1, h2⟩ := Option.bind_eq_some_iff.1 hh
    obtain ⟨_, hl, hcl⟩ := World.cells?_some h1
    refine ⟨cs', hl, fun j hj => ?_, _, h2⟩
    have := hcl j (by omega)
    rw [Go.Deep.add_add] at this
    rw [this, List.getElem?_eq_getElem hj]

theorem rFieldF : (Tryd.prog.fieldsOf 85).toList.map (fun f => (f.type, f.offset)) = [(9, 0), (51, 1)] := by kernel_rfl
theorem rUnderF : Tryd.prog.underlying 85 = some (.struct (Tryd.prog.fieldsOf 85)) := by kernel_rfl
theorem rCellsF : Tryd.prog.cellsOf 85 = 5 := by kernel_rfl
theorem rFieldS : (Tryd.prog.fieldsOf 83).toList.map (fun f => (f.type, f.offset)) = [(9, 0), (81, 1)] := by kernel_rfl
theorem rUnderS : Tryd.prog.underlying 83 = some (.struct (Tryd.prog.fieldsOf 83)) := by kernel_rfl
theorem rCellsS : Tryd.prog.cellsOf 83 = 2 := by kernel_rfl
theorem rCellsStr : Tryd.prog.cellsOf 9 = 1 := by kernel_rfl
theorem rCellsSl : Tryd.prog.cellsOf 81 = 1 := by kernel_rfl

theorem field_of {fs : Array Field} {l : List (TypeId × Nat)} (h : fs.toList.map (fun f => (f.type, f.offset)) = l) (j : Nat) {t : TypeId} {o : Nat} (hj : l[j]? = some (t, o)) : ∃ f, fs[j]? = some f ∧ f.type = t ∧ f.offset = o := by
  rw [← h, List.getElem?_map] at hj
  obtain ⟨f, hf, e⟩ := Option.map_eq_some_iff.1 hj
  simp only [Prod.mk.injEq] at e
  exact ⟨f, by simpa using hf, e.1, e.2⟩

set_option maxRecDepth 100000 in
theorem fd_of {H : Type} {enc : TypeId × Value → H} {W : World} {n : Nat} {cs : List Value} {y : DataW H × List MemPlace} (h : DataW.trod enc Tryd.prog W 0 (fun _ => true) true n 85 cs = some y) :
    ∃ (nm : ByteArray) (T : Ty) (c0 c1 c2 c3 : Value), cs = [.string nm, c0, c1, c2, c3] ∧ TyAt W n T c0 c1 c2 c3 := by
  obtain ⟨xs, m, hm, _, hl, hlen, hf⟩ := DataW.trod_struct rUnderF h
  rw [rCellsF] at hl
  obtain ⟨f0, a0, b0, o0⟩ := field_of rFieldF 0 rfl
  obtain ⟨f1, a1, b1, o1⟩ := field_of rFieldF 1 rfl
  have h0 := hf 0 f0 a0
  have h1 := hf 1 f1 a1
  rw [b0, o0, rCellsStr] at h0
  rw [b1, o1, rCellsT] at h1
  match cs, hl with
  | [u, c0, c1, c2, c3], _ =>
    have h0 : DataW.trod enc Tryd.prog W 0 (fun _ => true) true m 9 [u] = xs[0]? := h0
    have h1 : DataW.trod enc Tryd.prog W 0 (fun _ => true) true m 51 [c0, c1, c2, c3] = xs[1]? := h1
    have hxs : xs.length = 2 := by
      have e := congrArg List.length rFieldF
      rw [List.length_map, Array.length_toList] at e
      rw [hlen]
      exact e
    rw [List.getElem?_eq_getElem (by omega)] at h0 h1
    obtain ⟨s, hs, _, _⟩ := DataW.trod_string Tryd.underlying9 h0
    obtain ⟨g0, g1, g2, g3, I⟩ := ty_is
    obtain ⟨T, v0, v1, v2, v3, hv, hT⟩ := ty_of I m _ _ h1
    simp only [List.cons.injEq, and_true] at hs hv
    obtain ⟨rfl, rfl, rfl, rfl⟩ := hv
    subst hs
    exact ⟨s, T, _, _, _, _, rfl, TyAt.more _ _ _ _ _ _ hT n (by omega)⟩

theorem add_none {W : World} {a : Addr} {i : Nat} {v : Value} (hi : i = 0) (h : W.cell? (a.add i) = some v) : ∃ b off, a = ⟨b, off, none⟩ ∧ b < W.heap.size := by
  obtain ⟨b, off, spot⟩ := a
  have hs : spot = none := by
    have := World.cell?_spot h
    rw [hi] at this
    simpa [Addr.add] using this
  subst hs
  refine ⟨b, off, rfl, ?_⟩
  rw [Go.WideShapes.add_plain] at h
  exact cell_lt h

theorem fsl_of {H : Type} {enc : TypeId × Value → H} {W : World} {n : Nat} {cs : List Value} {y : DataW H × List MemPlace} (h : DataW.trod enc Tryd.prog W 0 (fun _ => true) true n 81 cs = some y) :
    ∃ (A : Option Addr) (cap : Nat) (fs : List Fd), cs = [.slice A fs.length cap] ∧ fs.length ≤ 9223372036854775807 ∧ FsAt W n A fs := by
  rcases sl_of Tryd.underlying81 rCellsF (by omega) h with rfl | ⟨a, len, cap, q, rfl, hn, hlen, hel⟩
  · exact ⟨none, 0, [], rfl, by simp, fun hz => by simp at hz, fun j hj => by simp at hj⟩
  · have each : ∀ i, i < len → ∃ fd : Fd, ∃ c0 c1 c2 c3, W.cell? (a.add (i * 5)) = some (.string fd.1) ∧ W.cell? (a.add (i * 5 + 1)) = some c0 ∧ W.cell? (a.add (i * 5 + 2)) = some c1 ∧ W.cell? (a.add (i * 5 + 3)) = some c2 ∧ W.cell? (a.add (i * 5 + 4)) = some c3 ∧ TyAt W n fd.2 c0 c1 c2 c3 := fun i hi => by
      obtain ⟨cs', hl, hc, y', hy⟩ := hel i hi
      obtain ⟨nm, T, c0, c1, c2, c3, rfl, hT⟩ := fd_of hy
      exact ⟨(nm, T), c0, c1, c2, c3, hc 0 (by simp), hc 1 (by simp), hc 2 (by simp), hc 3 (by simp), hc 4 (by simp), TyAt.more _ _ _ _ _ _ hT n (by omega)⟩
    have : Inhabited Fd := ⟨(ByteArray.empty, default)⟩
    obtain ⟨X, hX⟩ := Go.Deep.choose_lt each
    refine ⟨some a, cap, (List.range len).map X, by simp, by simp only [List.length_map, List.length_range]; unfold maxLen at hlen; omega, fun hz => ?_, fun j hj b off hA => ?_⟩
    · simp only [List.length_map, List.length_range] at hz
      obtain ⟨_, _, _, _, h0, _⟩ := hX 0 hz
      obtain ⟨b, off, rfl, hb⟩ := add_none (by omega) h0
      exact ⟨b, off, rfl, hb⟩
    · simp only [List.length_map, List.length_range] at hj
      cases hA
      obtain ⟨c0, c1, c2, c3, h, h0, h1, h2, h3, h4⟩ := hX j hj
      rw [Go.WideShapes.add_plain] at h h0 h1 h2 h3
      refine ⟨c0, c1, c2, c3, ?_, by rw [Nat.add_assoc]; exact h0, by rw [Nat.add_assoc]; exact h1, by rw [Nat.add_assoc]; exact h2, by rw [Nat.add_assoc]; exact h3, ?_⟩
      · simpa using h
      · simpa using h4

theorem FsAt.more {W : World} {n m : Nat} {A : Option Addr} {fs : List Fd} (h : FsAt W n A fs) (hm : n ≤ m) : FsAt W m A fs :=
  ⟨h.1, fun j hj b off hA => by
    obtain ⟨c0, c1, c2, c3, k, k0, k1, k2, k3, k4⟩ := h.2 j hj b off hA
    exact ⟨c0, c1, c2, c3, k, k0, k1, k2, k3, TyAt.more _ _ _ _ _ _ k4 m hm⟩⟩

theorem SsAt.more {W : World} {n m : Nat} {A : Option Addr} {ss : List St} (h : SsAt W n A ss) (hm : n ≤ m) : SsAt W m A ss :=
  ⟨h.1, fun j hj b off hA => by
    obtain ⟨B, cap, k0, k1, k2, k3⟩ := h.2 j hj b off hA
    exact ⟨B, cap, k0, k1, k2, k3.more hm⟩⟩

set_option maxRecDepth 100000 in
theorem st_of {H : Type} {enc : TypeId × Value → H} {W : World} {n : Nat} {cs : List Value} {y : DataW H × List MemPlace} (h : DataW.trod enc Tryd.prog W 0 (fun _ => true) true n 83 cs = some y) :
    ∃ (nm : ByteArray) (B : Option Addr) (cap : Nat) (fs : List Fd), cs = [.string nm, .slice B fs.length cap] ∧ fs.length ≤ 9223372036854775807 ∧ FsAt W n B fs := by
  obtain ⟨xs, m, hm, _, hl, hlen, hf⟩ := DataW.trod_struct rUnderS h
  rw [rCellsS] at hl
  obtain ⟨f0, a0, b0, o0⟩ := field_of rFieldS 0 rfl
  obtain ⟨f1, a1, b1, o1⟩ := field_of rFieldS 1 rfl
  have h0 := hf 0 f0 a0
  have h1 := hf 1 f1 a1
  rw [b0, o0, rCellsStr] at h0
  rw [b1, o1, rCellsSl] at h1
  match cs, hl with
  | [u, v], _ =>
    have h0 : DataW.trod enc Tryd.prog W 0 (fun _ => true) true m 9 [u] = xs[0]? := h0
    have h1 : DataW.trod enc Tryd.prog W 0 (fun _ => true) true m 81 [v] = xs[1]? := h1
    have hxs : xs.length = 2 := by
      have e := congrArg List.length rFieldS
      rw [List.length_map, Array.length_toList] at e
      rw [hlen]
      exact e
    rw [List.getElem?_eq_getElem (by omega)] at h0 h1
    obtain ⟨s, hs, _, _⟩ := DataW.trod_string Tryd.underlying9 h0
    obtain ⟨A, cap, fs, hv, hle, hF⟩ := fsl_of h1
    simp only [List.cons.injEq, and_true] at hs hv
    subst hs hv
    exact ⟨s, A, cap, fs, rfl, hle, hF.more (by omega)⟩

set_option maxRecDepth 100000 in
theorem ss_arg {H : Type} {enc : TypeId × Value → H} {W : World} {base : Nat} {v : Value} {d : DataW H} {p : List MemPlace} (k : DataW.Trod enc Tryd.prog W 0 (fun _ => true) true 55 v d p) (o : Value.okWide Tryd.prog W .any base 55 v) :
    ∃ (n : Nat) (A : Option Addr) (cap : Nat) (ss : List St), v = .slice A ss.length cap ∧ SsAt W n A ss ∧ ss.length ≤ 9223372036854775807 := by
  obtain ⟨a0, len0, cap0, rfl⟩ := okWide_slice Tryd.underlying55 o
  obtain ⟨n, hk⟩ := k
  rcases sl_of Tryd.underlying55 rCellsS (by omega) hk with hcs | ⟨a, len, cap, q, hcs, hn, hlen, hel⟩
  · simp [Value.cells] at hcs
    obtain ⟨rfl, rfl, rfl⟩ := hcs
    exact ⟨0, none, 0, [], rfl, ⟨fun hz => by simp at hz, fun j hj => by simp at hj⟩, by simp⟩
  · simp [Value.cells] at hcs
    obtain ⟨rfl, rfl, rfl⟩ := hcs
    have each : ∀ i, i < len0 → ∃ st : St, ∃ B cap, W.cell? (a.add (i * 2)) = some (.string st.1) ∧ W.cell? (a.add (i * 2 + 1)) = some (.slice B st.2.length cap) ∧ st.2.length ≤ 9223372036854775807 ∧ FsAt W n B st.2 := fun i hi => by
      obtain ⟨cs', hl, hc, y', hy⟩ := hel i hi
      obtain ⟨nm, B, cap, fs, rfl, hle, hF⟩ := st_of hy
      exact ⟨(nm, fs), B, cap, hc 0 (by simp), hc 1 (by simp), hle, hF.more (by omega)⟩
    have : Inhabited St := ⟨(ByteArray.empty, [])⟩
    obtain ⟨X, hX⟩ := Go.Deep.choose_lt each
    refine ⟨n, some a, cap0, (List.range len0).map X, by simp, ⟨fun hz => ?_, fun j hj b off hA => ?_⟩, by simp only [List.length_map, List.length_range]; unfold maxLen at hlen; omega⟩
    · simp only [List.length_map, List.length_range] at hz
      obtain ⟨_, _, h0, _⟩ := hX 0 hz
      obtain ⟨b, off, rfl, hb⟩ := add_none (by omega) h0
      exact ⟨b, off, rfl, hb⟩
    · simp only [List.length_map, List.length_range] at hj
      cases hA
      obtain ⟨B, cap, h0, h1, h2, h3⟩ := hX j hj
      rw [Go.WideShapes.add_plain] at h0 h1
      refine ⟨B, cap, ?_, ?_, ?_, ?_⟩
      · simpa using h0
      · rw [Nat.add_assoc]; simpa using h1
      · simpa using h2
      · simpa using h3

set_option maxRecDepth 100000 in
theorem pf_all (H : Type) (enc : TypeId × Value → H) (W : World) {base : Nat} (u : Value) (du : DataW H) (pu : List MemPlace) (ku : DataW.Trod enc Tryd.prog W 0 (fun _ => true) true 55 u du pu) (ou : Value.okWide Tryd.prog W .any base 55 u)
    (v : Value) (d : DataW H) (p : List MemPlace) (k : DataW.Trod enc Tryd.prog W 0 (fun _ => true) true 51 v d p) (o : Value.okWide Tryd.prog W .any base 51 v) (htab : TabS W) :
    Calls Tryd.prog 6 #[u, v] W (WkPost W) := by
  obtain ⟨n, A, cap, ss, rfl, hss, hm⟩ := ss_arg ku ou
  obtain ⟨cs, rfl, hsz⟩ := okWide_struct rUnderT o
  obtain ⟨f0, f1, f2, f3, I⟩ := ty_is
  obtain ⟨q, T, v0, v1, v2, v3, h1, h2⟩ := ty_arg I k
  obtain ⟨l⟩ := cs
  have h1 : l = [v0, v1, v2, v3] := h1
  subst h1
  exact law_all W (n + q) q A cap ss (hss.more (by omega)) hm T v0 v1 v2 v3 h2 (by omega) htab
end Go.Proofs.YtmahoppjefhnjaaDoor.sh
