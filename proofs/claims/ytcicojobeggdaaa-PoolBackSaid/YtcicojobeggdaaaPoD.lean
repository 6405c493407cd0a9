/-
  pool: Write.
-/
import Derived.Test.YtcicojobeggdaaaPoC
import Derived.Test.YtcicojobeggdaaaVr9
namespace Go.Proofs.Ytcicojobeggdaaa.po
open Go.RowKit Go.Sort Go.Proofs.Ytcicojobeggdaaa.mem Go.Proofs.Ytcicojobeggdaaa.vr

theorem putN_eq (S : List UInt8) (k : Nat) (h : k ≤ 268435456) : putN (S, 0) (k : Int) = (S ++ nb k, 0) := put_number S k h

/-- a writer since a world: but for its own blocks nothing has changed -/
structure WSt (w wr : World) (f : Nat) (B0 : Option Addr) (B : Option Addr) (c : Nat) (S : List UInt8) : Prop where
  wa : WA wr f B c (S, 0)
  fr : Fr (f :: blk B0) w wr
  own : ∀ g ∈ blk B, g ∈ blk B0 ∨ w.heap.size ≤ g

theorem WSt.start {w : World} {f : Nat} {B : Option Addr} {c : Nat} {S : List UInt8} (h : WA w f B c (S, 0)) : WSt w w f B B c S := ⟨h, Fr.refl _ _, fun g hg => Or.inl hg⟩

theorem WSt.bel {w wr w2 : World} {f : Nat} {B0 B : Option Addr} {c : Nat} {S : List UInt8} (h : WSt w wr f B0 B c S) (hb : Below wr.heap.size wr w2) : WSt w w2 f B0 B c S :=
  ⟨h.wa.kept (Fr.of_below hb []) (by simp) (by simp), h.fr.trans (Fr.of_below hb []) (fun g hg => Or.inl hg) (by simp), h.own⟩

theorem WSt.step {w wr w2 : World} {f : Nat} {B0 B B2 : Option Addr} {c c2 : Nat} {S S2 : List UInt8} (h : WSt w wr f B0 B c S) (h2 : WA w2 f B2 c2 (S2, 0)) (hf : Fr (f :: blk B) wr w2) (ho : ∀ g ∈ blk B2, g ∈ blk B ∨ wr.heap.size ≤ g) : WSt w w2 f B0 B2 c2 S2 := by
  have hs := h.fr.size
  refine ⟨h2, h.fr.trans hf (fun g hg => Or.inl hg) (fun g hg => ?_), fun g hg => ?_⟩
  · rcases List.mem_cons.1 hg with rfl | hg
    · exact Or.inl (by simp)
    · exact (h.own g hg).imp (fun h => List.mem_cons_of_mem _ h) id
  · rcases ho g hg with h1 | h1
    · exact h.own g h1
    · exact Or.inr (by omega)

theorem num_own {w0 w : World} {f : Nat} {B0 B : Option Addr} {c : Nat} {S : List UInt8} (k : Nat) (h : WSt w0 w f B0 B c S) (hk : k ≤ 268435456) (hl : S.length ≤ 100000000) :
    Calls Try.prog 22 #[.pointer (some ⟨f, 0, none⟩), .int .i64 k] w fun e w' => e = .returned (.tuple #[]) ∧ ∃ B' c', WSt w0 w' f B0 B' c' (S ++ nb k) := by
  refine (wn_any w f B c (S, 0) k h.wa hl).mono ?_
  rw [put_number S k hk]
  rintro e w' ⟨rfl, B', c', h2, hf, ho⟩
  exact ⟨rfl, B', c', h.step h2 hf ho⟩

theorem text_own {w0 w : World} {f : Nat} {B0 B : Option Addr} {c : Nat} {S : List UInt8} (x : List UInt8) (h : WSt w0 w f B0 B c S) (hk : x.length ≤ 200000) (hl : S.length ≤ 100000000) :
    Calls Try.prog 24 #[.pointer (some ⟨f, 0, none⟩), .string (bs x)] w fun e w' => e = .returned (.tuple #[]) ∧ ∃ B' c', WSt w0 w' f B0 B' c' (S ++ (nb x.length ++ x)) := by
  refine (wt_any w f B c (S, 0) (bs x) h.wa hl).mono ?_
  rw [put_text S x hk]
  rintro e w' ⟨rfl, B', c', h2, hf, ho⟩
  exact ⟨rfl, B', c', h.step h2 hf ho⟩

theorem done_own {w : World} {f : Nat} {B : Option Addr} {c : Nat} {S : List UInt8} (h : WA w f B c (S, 0)) :
    Calls Try.prog 11 #[.pointer (some ⟨f, 0, none⟩)] w fun e w' => e = .returned (.tuple #[encStr S, .int .i64 0]) ∧ Below w.heap.size w w' := by
  refine (wd_any w f B c (S, 0) h).mono ?_
  rintro e w' ⟨rfl, h2⟩
  exact ⟨rfl, h2⟩

theorem Pl.kept {F : List Nat} {w w' : World} {b : Nat} {A : Option Addr} {cap : Nat} {m : List (List UInt8)} (h : Pl w b A cap m) (hf : Fr F w w') (h1 : b ∉ F) (h2 : 0 < m.length → ∀ g ∈ blk A, g ∉ F) : Pl w' b A cap m :=
  ⟨h.box.kept hf h1, fun hz => h.rd.kept hf (h2 (by simpa using hz)) hz⟩

set_option maxRecDepth 100000 in
theorem write_p (w : World) (b : Nat) (A : Option Addr) (cap : Nat) (m : List (List UInt8)) (f : Nat) (B : Option Addr) (c : Nat) (S : List UInt8) (hp : Pl w b A cap m) (ho : WA w f B c (S, 0)) (hbf : b ∉ f :: blk B) (haf : 0 < m.length → ∀ g ∈ blk A, g ∉ f :: blk B) (hm : m.length ≤ 100000) (hx : ∀ x ∈ m, x.length ≤ 20000) (hlen : ∀ k, k ≤ m.length → (pP m k).length ≤ 40000000) (hS : S.length ≤ 10000000) :
    Calls Try.prog 10 #[.pointer (some ⟨b, 0, none⟩), .pointer (some ⟨f, 0, none⟩)] w fun e w' => e = .returned (.tuple #[]) ∧ ∃ B' c', WSt w w' f B B' c' (S ++ pP m m.length) := by
  have KL := Lib.hid (fun w' B' c' S' (h : WSt w w' f B B' c' S') => plen_any w' b A cap m (hp.kept h.fr hbf haf))
  have HP := Lib.hid (fun w' B' c' S' (h : WSt w w' f B B' c' S') => hp.kept h.fr hbf haf)
  have H0 := Lib.hid (WSt.start ho)
  have K0 := Lib.hid (num_own m.length (WSt.start ho) (by omega) (by omega))
  have e0 : S ++ nb m.length = S ++ pP m 0 := rfl
  rw [e0] at K0
  clear hp e0 hbf haf
  go_enter Try.func10, Try.ntmps10
  go_wp2_with (first
    | (go_at_call 14; refine (KL.out _ _ _ _ H0.out).mono ?_; rintro e w1 ⟨rfl, rfl⟩)
    | (go_at_call 22; refine K0.out.mono ?_; rintro e w1 ⟨rfl, B1, c1, o1⟩; have O1 := Lib.hid o1; clear o1 K0 H0 ho))
  refine (KL.out _ _ _ _ O1.out).mono ?_
  rintro e w1 ⟨rfl, rfl⟩
  go_wp2_with fail
  go_loopw [4, 14] (fun a i wr => ∃ (k : Nat) (B' : Option Addr) (c : Nat), k ≤ m.length ∧ a = encStr (pv m k) ∧ i = .int .i64 k ∧ Hid (WSt w wr f B B' c (S ++ pP m k))) (fun _ i _ => m.length - (intOf i).toNat)
  case atStart => exact ⟨0, B1, c1, by omega, rfl, rfl, O1⟩
  case round =>
    obtain ⟨k, Bk, ck, hk, rfl, rfl, hok⟩ := hrel
    rename_i wr
    by_cases hkl : k < m.length
    · have d1 : decide ((k : Int) < (m.length : Int)) = true := decide_eq_true (by omega)
      have hpw := HP.out _ _ _ _ hok.out
      have c0 : wr.cell? ⟨b, 0, none⟩ = some (.slice A m.length cap) := hpw.box.cell 0
      obtain ⟨g, off, rfl, hl, hc⟩ := rdS hpw.rd (by omega)
      have c2 := hc k hkl
      have hsn : Hid (pP m (k + 1) = pP m k ++ one (pv m k) m[k]) := Lib.hid (by rw [← at1_get m k hkl]; rfl)
      have hpv : Hid (pv m (k + 1) = m[k]) := Lib.hid (by rw [pv_succ, at1_get m k hkl])
      have hxl := hx m[k] (List.getElem_mem hkl)
      have hpl : (pv m k).length ≤ 20000 := by
        unfold pv
        split
        · simp
        · exact at1_le m _ _ hx
      have hlk := hlen k hk
      clear hc hpw
      generalize m[k] = x at *
      generalize pv m k = a at *
      have hs2 := shr_le2 a x
      have KS := Lib.hid (shared_any wr a x (by unfold maxLen; omega) (by unfold maxLen; omega))
      have KN : Hid (∀ (w' : World) B' c, WSt w w' f B B' c (S ++ pP m k) → _) := Lib.hid (fun w' B' c (h : WSt w w' f B B' c (S ++ pP m k)) => num_own (shr a x) h (by omega) (by rw [List.length_append]; omega))
      have hn5 := nb_len (shr a x) (by omega)
      have KT : Hid (∀ (w' : World) B' c, WSt w w' f B B' c (S ++ pP m k ++ nb (shr a x)) → _) := Lib.hid (fun w' B' c (h : WSt w w' f B B' c (S ++ pP m k ++ nb (shr a x))) => text_own (x.drop (shr a x)) h (by rw [List.length_drop]; omega) (by rw [List.length_append, List.length_append]; omega))
      have hex := extract_bs x (shr a x)
      have hsx : (ByteArray.mk x.toArray).size = x.length := by simp [ByteArray.size]
      have hfin : Hid (S ++ pP m k ++ nb (shr a x) ++ (nb (x.drop (shr a x)).length ++ x.drop (shr a x)) = S ++ pP m (k + 1)) := Lib.hid (by rw [hsn.out, one, List.length_drop]; simp only [List.append_assoc])
      unfold bs at hex
      rw [hsx] at hex
      rw [hfin.out] at KT
      unfold bs at KT
      clear hfin hsn hlk hn5 hxl hpl
      have HX := Lib.hid hex
      clear hex
      generalize shr a x = n at *
      generalize x.drop n = y at *
      have hsl : ∀ W, (Instr.slice 9 (.string ⟨x.toArray⟩) (some (.int .i64 (n : Int))) none none).run Try.prog W = .ok (.string ⟨y.toArray⟩) W := by
        intro W
        rw [run_slice_string_l (P := Try.prog) W 9 ⟨x.toArray⟩ Try.underlying9 .i64 n (by omega) (by rw [hsx]; omega)]
        rw [hsx]
        exact congrArg (fun z => Result.ok (Value.string z) W) HX.out
      go_wp2_with (first
        | (go_at_call 23; refine KS.out.mono ?_; rintro e w2 ⟨rfl, b2⟩; have O2 := Lib.hid (WSt.bel hok.out b2); clear b2 KS)
        | (go_at_call 22; refine (KN.out _ _ _ O2.out).mono ?_; rintro e w3 ⟨rfl, B3, c3, o3⟩; have O3 := Lib.hid o3; clear o3 KN)
        | (go_at_call 24; refine (KT.out _ _ _ O3.out).mono ?_; rintro e w4 ⟨rfl, B4, c4, o4⟩; have O4 := Lib.hid o4; clear o4 KT))
      go_roundw
      case rel => exact ⟨k + 1, B4, c4, by omega, by rw [hpv.out], by go_num, O4⟩
      case measure => simp [intOf]; omega
    · obtain rfl : k = m.length := by omega
      have d1 : decide ((m.length : Int) < (m.length : Int)) = false := decide_eq_false (by omega)
      go_wp2_with fail
      go_end0
      exact ⟨rfl, Bk, ck, hok.out⟩
end Go.Proofs.Ytcicojobeggdaaa.po
