/-
  Shape: types and structs stay where a block of one cell is written.
-/
import Derived.Test.YtmahoppjefhnjaaDoorShC
namespace Go.Proofs.YtmahoppjefhnjaaDoor.sh
open Go.RowKit Go.Sort Go.Proofs.YtmahoppjefhnjaaDoor.mem

theorem one_cell {w : World} {g : Nat} {t : TypeId} {u v : Value} {i : Nat} (h : Box w g t #[u]) (hi : w.cell? ⟨g, i, none⟩ = some v) : i = 0 := by
  rw [h.cell] at hi
  cases i with
  | zero => rfl
  | succ i => simp at hi

theorem cell_fr {w w' : World} {g b i : Nat} (hf : Fr [g] w w') (hb : b < w.heap.size) (hne : b ≠ g) : w'.cell? ⟨b, i, none⟩ = w.cell? ⟨b, i, none⟩ :=
  World.cell?_of_block (w := w) (hf.block b hb (by simpa using hne))

theorem TyAt.fr {w w' : World} {g : Nat} {t : TypeId} {u : Value} (hx : Box w g t #[u]) (hf : Fr [g] w w') : ∀ (f : Nat) (T : Ty) (v0 v1 v2 v3 : Value), TyAt w f T v0 v1 v2 v3 → TyAt w' f T v0 v1 v2 v3
  | 0, _, _, _, _, _, ht => ht.elim
  | f + 1, T, v0, v1, v2, v3, ht => by
    obtain ⟨h0, h1, h2, h3, h4, h5, A, cap, h6, h7, h8, h9⟩ := ht
    refine ⟨h0, h1, h2, h3, h4, h5, A, cap, h6, h7, fun hz => ?_, fun j hj b off hA => ?_⟩
    · obtain ⟨b, off, hA, hb⟩ := h8 hz
      exact ⟨b, off, hA, Nat.lt_of_lt_of_le hb hf.size⟩
    · obtain ⟨c0, c1, c2, c3, k0, k1, k2, k3, k4⟩ := h9 j hj b off hA
      obtain ⟨b', off', hA', hb⟩ := h8 (by omega)
      have hlt : b < w.heap.size := by rw [hA] at hA'; cases hA'; exact hb
      have hne : b ≠ g := by
        rintro rfl
        have := one_cell hx k1
        omega
      exact ⟨c0, c1, c2, c3, by rw [cell_fr hf hlt hne]; exact k0, by rw [cell_fr hf hlt hne]; exact k1, by rw [cell_fr hf hlt hne]; exact k2, by rw [cell_fr hf hlt hne]; exact k3, TyAt.fr hx hf f _ _ _ _ _ k4⟩

theorem TysAt.fr {w w' : World} {g n : Nat} {t : TypeId} {u : Value} {A : Option Addr} {ts : List Ty} (h : TysAt w n A ts) (hx : Box w g t #[u]) (hf : Fr [g] w w') : TysAt w' n A ts := by
  refine ⟨fun hz => ?_, fun j hj b off hA => ?_⟩
  · obtain ⟨b, off, hA, hl⟩ := h.1 hz
    exact ⟨b, off, hA, Nat.lt_of_lt_of_le hl hf.size⟩
  · obtain ⟨b', off', hA', hl⟩ := h.1 (by omega)
    have hlt : b < w.heap.size := by rw [hA] at hA'; cases hA'; exact hl
    obtain ⟨c0, c1, c2, c3, k0, k1, k2, k3, k4⟩ := h.2 j hj b off hA
    have hne : b ≠ g := by
      rintro rfl
      have := one_cell hx k1
      omega
    exact ⟨c0, c1, c2, c3, by rw [cell_fr hf hlt hne]; exact k0, by rw [cell_fr hf hlt hne]; exact k1, by rw [cell_fr hf hlt hne]; exact k2, by rw [cell_fr hf hlt hne]; exact k3, TyAt.fr hx hf _ _ _ _ _ _ k4⟩

theorem FsAt.fr {w w' : World} {g n : Nat} {t : TypeId} {u : Value} {A : Option Addr} {fs : List Fd} (h : FsAt w n A fs) (hx : Box w g t #[u]) (hf : Fr [g] w w') : FsAt w' n A fs := by
  refine ⟨fun hz => ?_, fun j hj b off hA => ?_⟩
  · obtain ⟨b, off, hA, hl⟩ := h.1 hz
    exact ⟨b, off, hA, Nat.lt_of_lt_of_le hl hf.size⟩
  · obtain ⟨b', off', hA', hl⟩ := h.1 (by omega)
    have hlt : b < w.heap.size := by rw [hA] at hA'; cases hA'; exact hl
    obtain ⟨c0, c1, c2, c3, k, k0, k1, k2, k3, k4⟩ := h.2 j hj b off hA
    have hne : b ≠ g := by
      rintro rfl
      have := one_cell hx k1
      omega
    exact ⟨c0, c1, c2, c3, by rw [cell_fr hf hlt hne]; exact k, by rw [cell_fr hf hlt hne]; exact k0, by rw [cell_fr hf hlt hne]; exact k1, by rw [cell_fr hf hlt hne]; exact k2, by rw [cell_fr hf hlt hne]; exact k3, TyAt.fr hx hf _ _ _ _ _ _ k4⟩

theorem SsAt.fr {w w' : World} {g n : Nat} {t : TypeId} {u : Value} {A : Option Addr} {ss : List St} (h : SsAt w n A ss) (hx : Box w g t #[u]) (hf : Fr [g] w w') : SsAt w' n A ss := by
  refine ⟨fun hz => ?_, fun j hj b off hA => ?_⟩
  · obtain ⟨b, off, hA, hl⟩ := h.1 hz
    exact ⟨b, off, hA, Nat.lt_of_lt_of_le hl hf.size⟩
  · obtain ⟨b', off', hA', hl⟩ := h.1 (by omega)
    have hlt : b < w.heap.size := by rw [hA] at hA'; cases hA'; exact hl
    obtain ⟨B, cap, k0, k1, k2, k3⟩ := h.2 j hj b off hA
    have hne : b ≠ g := by
      rintro rfl
      have := one_cell hx k1
      omega
    exact ⟨B, cap, by rw [cell_fr hf hlt hne]; exact k0, by rw [cell_fr hf hlt hne]; exact k1, k2, k3.fr hx hf⟩

theorem Arg.fr {w w' : World} {n q g : Nat} {A : Option Addr} {ss : List St} {T : Ty} {v0 v1 v2 v3 u : Value} {t : TypeId} (h : Arg w n q A ss T v0 v1 v2 v3) (hx : Box w g t #[u]) (hf : Fr [g] w w') : Arg w' n q A ss T v0 v1 v2 v3 :=
  ⟨h.at_.fr hx hf, h.hm, h.few, h.ty.fr hx hf, h.hq⟩

/-- which cell lies at a place: the path down, at a struct the cells of the fields ahead of the place -/
def aheadC (ss : List St) (f : Nat) : List Ty → Int → Int → Int
  | [], _, c => c
  | E :: r, p, c => if p < (extC ss f E).2 then c else aheadC ss f r (p - (extC ss f E).2) (c + (extC ss f E).1)

/-- what the closure of Cell makes of a type and a place within it -/
def cellStep (ss : List St) (f : Nat) (T : Ty) (p c : Int) : Int := if T.kind ≠ 3 then c else aheadC ss f (withinL ss T) p c

/-- what Cell's closure has captured -/
structure LE (w : World) (n : Nat) (A : Option Addr) (cap : Nat) (ss : List St) (g1 g : Nat) (c : Int) : Prop where
  b1 : Box w g1 55 #[.slice A ss.length cap]
  bg : Box w g 3 #[.int .i64 c]

theorem LE.kept {w w' : World} {n : Nat} {A : Option Addr} {cap : Nat} {ss : List St} {g1 g : Nat} {c : Int} (h : LE w n A cap ss g1 g c) (hb : Below w.heap.size w w') : LE w' n A cap ss g1 g c :=
  ⟨h.b1.kept (Fr.of_below hb []) (by simp), h.bg.kept (Fr.of_below hb []) (by simp)⟩

theorem LE.ne {w : World} {n : Nat} {A : Option Addr} {cap : Nat} {ss : List St} {g1 g : Nat} {c : Int} (h : LE w n A cap ss g1 g c) : g1 ≠ g := by
  rintro rfl
  have h1 := h.b1
  have h2 := h.bg
  unfold Box at h1 h2
  rw [h1] at h2
  simp at h2

theorem LE.set {w : World} {n : Nat} {A : Option Addr} {cap : Nat} {ss : List St} {g1 g : Nat} {c : Int} (h : LE w n A cap ss g1 g c) (d : Int) : LE (w.setCell ⟨g, 0, none⟩ (.int .i64 d)) n A cap ss g1 g d :=
  ⟨h.b1.kept ((Fr.refl [g] w).setCell (p := ⟨g, 0, none⟩) (Or.inl (by simp)) _) (by simpa using h.ne), h.bg.put 0 _⟩
end Go.Proofs.YtmahoppjefhnjaaDoor.sh
