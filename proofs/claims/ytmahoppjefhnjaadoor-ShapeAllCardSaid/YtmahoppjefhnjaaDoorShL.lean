/-
  Shape: types and structs stay where blocks are written that hold no slice behind their first cell.
-/
import Derived.Test.YtmahoppjefhnjaaDoorShK
namespace Go.Proofs.YtmahoppjefhnjaaDoor.sh
open Go.RowKit Go.Sort Go.Proofs.YtmahoppjefhnjaaDoor.mem

/-- no slice lies behind the first cell of these blocks -/
def NoSl (F : List Nat) (w : World) : Prop := ∀ g ∈ F, ∀ (i : Nat) (A : Option Addr) (n c : Nat), 1 ≤ i → w.cell? ⟨g, i, none⟩ ≠ some (.slice A n c)

theorem NoSl.out {F : List Nat} {w : World} {g i n c : Nat} {A : Option Addr} (h : NoSl F w) (k : w.cell? ⟨g, i, none⟩ = some (.slice A n c)) (hi : 1 ≤ i) : g ∉ F := fun hg => h g hg i A n c hi k

theorem NoSl.box {w : World} {g : Nat} {t : TypeId} {u : Value} (h : Box w g t #[u]) : NoSl [g] w := by
  intro g' hg i A n c hi k
  rw [List.mem_singleton] at hg
  subst hg
  have := one_cell h k
  omega

theorem NoSl.app {F G : List Nat} {w : World} (h : NoSl F w) (k : NoSl G w) : NoSl (F ++ G) w := by
  intro g hg
  rcases List.mem_append.1 hg with h1 | h1
  · exact h g h1
  · exact k g h1

theorem cell_frs {F : List Nat} {w w' : World} {b i : Nat} (hf : Fr F w w') (hb : b < w.heap.size) (hne : b ∉ F) : w'.cell? ⟨b, i, none⟩ = w.cell? ⟨b, i, none⟩ :=
  World.cell?_of_block (w := w) (hf.block b hb hne)

theorem TyAt.sl {w : World} : ∀ {f : Nat} {T : Ty} {v0 v1 v2 v3 : Value}, TyAt w f T v0 v1 v2 v3 → ∃ A n c, v3 = .slice A n c
  | 0, _, _, _, _, _, h => h.elim
  | _ + 1, _, _, _, _, _, h => by
    obtain ⟨_, _, _, _, _, _, A, cap, rfl, _⟩ := h
    exact ⟨_, _, _, rfl⟩

theorem TyAt.frs {w w' : World} {F : List Nat} (hx : NoSl F w) (hf : Fr F w w') : ∀ (f : Nat) (T : Ty) (v0 v1 v2 v3 : Value), TyAt w f T v0 v1 v2 v3 → TyAt w' f T v0 v1 v2 v3
  | 0, _, _, _, _, _, ht => ht.elim
  | f + 1, T, v0, v1, v2, v3, ht => by
    obtain ⟨h0, h1, h2, h3, h4, h5, A, cap, h6, h7, h8, h9⟩ := ht
    refine ⟨h0, h1, h2, h3, h4, h5, A, cap, h6, h7, fun hz => ?_, fun j hj b off hA => ?_⟩
    · obtain ⟨b, off, hA, hb⟩ := h8 hz
      exact ⟨b, off, hA, Nat.lt_of_lt_of_le hb hf.size⟩
    · obtain ⟨c0, c1, c2, c3, k0, k1, k2, k3, k4⟩ := h9 j hj b off hA
      obtain ⟨b', off', hA', hb⟩ := h8 (by omega)
      have hlt : b < w.heap.size := by rw [hA] at hA'; cases hA'; exact hb
      have hne : b ∉ F := by
        obtain ⟨A9, n9, c9, rfl⟩ := k4.sl
        exact hx.out k3 (by omega)
      exact ⟨c0, c1, c2, c3, by rw [cell_frs hf hlt hne]; exact k0, by rw [cell_frs hf hlt hne]; exact k1, by rw [cell_frs hf hlt hne]; exact k2, by rw [cell_frs hf hlt hne]; exact k3, TyAt.frs hx hf f _ _ _ _ _ k4⟩

theorem TysAt.frs {w w' : World} {n : Nat} {F : List Nat} {A : Option Addr} {ts : List Ty} (h : TysAt w n A ts) (hx : NoSl F w) (hf : Fr F w w') : TysAt w' n A ts := by
  refine ⟨fun hz => ?_, fun j hj b off hA => ?_⟩
  · obtain ⟨b, off, hA, hl⟩ := h.1 hz
    exact ⟨b, off, hA, Nat.lt_of_lt_of_le hl hf.size⟩
  · obtain ⟨b', off', hA', hl⟩ := h.1 (by omega)
    have hlt : b < w.heap.size := by rw [hA] at hA'; cases hA'; exact hl
    obtain ⟨c0, c1, c2, c3, k0, k1, k2, k3, k4⟩ := h.2 j hj b off hA
    have hne : b ∉ F := by
        obtain ⟨A9, n9, c9, rfl⟩ := k4.sl
        exact hx.out k3 (by omega)
    exact ⟨c0, c1, c2, c3, by rw [cell_frs hf hlt hne]; exact k0, by rw [cell_frs hf hlt hne]; exact k1, by rw [cell_frs hf hlt hne]; exact k2, by rw [cell_frs hf hlt hne]; exact k3, TyAt.frs hx hf _ _ _ _ _ _ k4⟩

theorem FsAt.frs {w w' : World} {n : Nat} {F : List Nat} {A : Option Addr} {fs : List Fd} (h : FsAt w n A fs) (hx : NoSl F w) (hf : Fr F w w') : FsAt w' n A fs := by
  refine ⟨fun hz => ?_, fun j hj b off hA => ?_⟩
  · obtain ⟨b, off, hA, hl⟩ := h.1 hz
    exact ⟨b, off, hA, Nat.lt_of_lt_of_le hl hf.size⟩
  · obtain ⟨b', off', hA', hl⟩ := h.1 (by omega)
    have hlt : b < w.heap.size := by rw [hA] at hA'; cases hA'; exact hl
    obtain ⟨c0, c1, c2, c3, k, k0, k1, k2, k3, k4⟩ := h.2 j hj b off hA
    have hne : b ∉ F := by
        obtain ⟨A9, n9, c9, rfl⟩ := k4.sl
        exact hx.out k3 (by omega)
    exact ⟨c0, c1, c2, c3, by rw [cell_frs hf hlt hne]; exact k, by rw [cell_frs hf hlt hne]; exact k0, by rw [cell_frs hf hlt hne]; exact k1, by rw [cell_frs hf hlt hne]; exact k2, by rw [cell_frs hf hlt hne]; exact k3, TyAt.frs hx hf _ _ _ _ _ _ k4⟩

theorem SsAt.frs {w w' : World} {n : Nat} {F : List Nat} {A : Option Addr} {ss : List St} (h : SsAt w n A ss) (hx : NoSl F w) (hf : Fr F w w') : SsAt w' n A ss := by
  refine ⟨fun hz => ?_, fun j hj b off hA => ?_⟩
  · obtain ⟨b, off, hA, hl⟩ := h.1 hz
    exact ⟨b, off, hA, Nat.lt_of_lt_of_le hl hf.size⟩
  · obtain ⟨b', off', hA', hl⟩ := h.1 (by omega)
    have hlt : b < w.heap.size := by rw [hA] at hA'; cases hA'; exact hl
    obtain ⟨B, cap, k0, k1, k2, k3⟩ := h.2 j hj b off hA
    have hne : b ∉ F := hx.out k1 (by omega)
    exact ⟨B, cap, by rw [cell_frs hf hlt hne]; exact k0, by rw [cell_frs hf hlt hne]; exact k1, k2, k3.frs hx hf⟩

theorem Arg.frs {w w' : World} {n q : Nat} {F : List Nat} {A : Option Addr} {ss : List St} {T : Ty} {v0 v1 v2 v3 : Value} (h : Arg w n q A ss T v0 v1 v2 v3) (hx : NoSl F w) (hf : Fr F w w') : Arg w' n q A ss T v0 v1 v2 v3 :=
  ⟨h.at_.frs hx hf, h.hm, h.few, h.ty.frs hx hf, h.hq⟩

end Go.Proofs.YtmahoppjefhnjaaDoor.sh
