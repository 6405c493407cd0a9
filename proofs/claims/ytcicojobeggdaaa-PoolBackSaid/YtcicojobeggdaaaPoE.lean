/-
  pool: the reference's bytes.
-/
import Derived.Test.YtcicojobeggdaaaPoC
import Derived.Lib.QuietBelow
import Derived.Deep.QuietTactic
namespace Go.Proofs.Ytcicojobeggdaaa.po
open Go.RowKit Go.Sort Go.Proofs.Ytcicojobeggdaaa.mem Go.Proofs.Ytcicojobeggdaaa.vr

theorem wrap_nat (n : Nat) (h : n ≤ 9223372036854775807) : IntKind.i64.wrap (n : Int) = (n : Int) := by
  exact IntWalk.i64_in _ (by omega)

theorem Rd.regrown {w : World} {A : Option Addr} {xs : List Value} (h : Rd w A xs) (d : Nat) (os : Array Obj) : Rd (grow (redrawn w d) os) A xs := h.below (below_regrown w d os)

set_option maxRecDepth 100000 in
theorem rbytes_any (w : World) (A : Option Addr) (cap : Nat) (m : List (List UInt8)) (h : Rd w A (m.map encStr)) (hm : m.length ≤ 1000) (hx : ∀ x ∈ m, x.length ≤ 20000) :
    Calls Try.prog 13 #[.slice A m.length cap] w fun e w' => e = .returned (encStr (pP m m.length)) ∧ Below w.heap.size w w' := by
  have Hh := Lib.hid h
  have hlen := pP_few m hm hx
  have K0 := Lib.hid (rnumber_any w m.length (by omega))
  have e0 : bs (nb m.length) = bs (pP m 0) := rfl
  rw [e0] at K0
  clear h e0
  go_enter Try.func13, Try.ntmps13
  go_wp2_with fail
  refine K0.out.mono ?_
  rintro e w1 ⟨rfl, b1⟩
  have B1 := Lib.hid b1
  clear b1 K0
  go_wp2_with fail
  go_loopw [3, 4, 5] (fun s a i wr => ∃ (k : Nat), k ≤ m.length ∧ s = encStr (pP m k) ∧ a = encStr (pv m k) ∧ i = .int .i64 k ∧ Hid (Below w.heap.size w wr)) (fun _ _ i _ => m.length - (intOf i).toNat)
  case atStart => exact ⟨0, by omega, rfl, rfl, rfl, B1⟩
  case round =>
    obtain ⟨k, hk, rfl, rfl, rfl, hb⟩ := hrel
    rename_i wr _
    by_cases hkl : k < m.length
    · have d1 : decide ((k : Int) < (m.length : Int)) = true := decide_eq_true (by omega)
      obtain ⟨g, off, rfl, hl, hc⟩ := rdS Hh.out (by omega)
      have hsn : Hid (pP m (k + 1) = pP m k ++ one (pv m k) m[k]) := Lib.hid (by rw [← at1_get m k hkl]; rfl)
      have hpv : Hid (pv m (k + 1) = m[k]) := Lib.hid (by rw [pv_succ, at1_get m k hkl])
      have hcc : Hid (∀ w', Below w.heap.size w w' → w'.cell? ⟨g, off + k, none⟩ = some (encStr m[k])) := Lib.hid (fun w' hb => (hb.cell (p := ⟨g, _, none⟩) hl).trans (hc k hkl))
      have hxl := hx m[k] (List.getElem_mem hkl)
      have hpl : (pv m k).length ≤ 20000 := by
        unfold pv
        split
        · simp
        · exact at1_le m _ _ hx
      have hlk := hlen k hk
      clear hc
      generalize m[k] = x at *
      generalize pv m k = a at *
      have hs2 := shr_le2 a x
      have KS := Lib.hid (rshared_any wr a x (by unfold maxLen; omega) (by unfold maxLen; omega))
      have hn5 := nb_len (shr a x) (by omega)
      have hn6 := nb_len (x.length - shr a x) (by omega)
      have hex := extract_bs x (shr a x)
      have hsx : (ByteArray.mk x.toArray).size = x.length := by simp [ByteArray.size]
      have hsub : Hid ((x.length : Int) - ((shr a x : Nat) : Int) = ((x.length - shr a x : Nat) : Int)) := Lib.hid (by omega)
      have hyl : (x.drop (shr a x)).length ≤ 20000 := by rw [List.length_drop]; omega
      have hfin : Hid (pP m k ++ nb (shr a x) ++ nb (x.length - shr a x) ++ x.drop (shr a x) = pP m (k + 1)) := Lib.hid (by rw [hsn.out, one]; simp only [List.append_assoc])
      unfold bs at hex
      rw [hsx] at hex
      clear hsn
      have HX := Lib.hid hex
      clear hex
      generalize shr a x = n at *
      generalize x.drop n = y at *
      have hsl : ∀ W, (Instr.slice 9 (.string ⟨x.toArray⟩) (some (.int .i64 (n : Int))) none none).run Try.prog W = .ok (.string ⟨y.toArray⟩) W := by
        intro W
        rw [run_slice_string_l (P := Try.prog) W 9 ⟨x.toArray⟩ Try.underlying9 .i64 n (by omega) (by rw [hsx]; omega)]
        rw [hsx]
        exact congrArg (fun z => Result.ok (Value.string z) W) HX.out
      have KA : Hid (∀ (W : World) (d : Nat) (os : Array Obj), Calls Try.prog 26 #[.int .i64 n] (grow (redrawn W d) os) fun e w'' => e = .returned (.string ⟨(nb n).toArray⟩) ∧ ∃ p : Regrown, w'' = grow (redrawn W p.d) p.os) := Lib.hid (fun W d os => Calls.regrown_of (rnumber_any _ n (by omega)))
      have KB : Hid (∀ (W : World) (d : Nat) (os : Array Obj), Calls Try.prog 26 #[.int .i64 ((x.length - n : Nat) : Int)] (grow (redrawn W d) os) fun e w'' => e = .returned (.string ⟨(nb (x.length - n)).toArray⟩) ∧ ∃ p : Regrown, w'' = grow (redrawn W p.d) p.os) := Lib.hid (fun W d os => Calls.regrown_of (rnumber_any _ (x.length - n) (by omega)))
      have hwr : IntKind.i64.wrap ((x.length : Int) - (n : Int)) = ((x.length - n : Nat) : Int) := by rw [hsub.out]; exact wrap_nat _ (by omega)
      generalize x.length - n = D at *
      generalize nb D = N2 at *
      generalize nb n = N1 at *
      generalize pP m k = P at *
      have q1 : ¬ 9223372036854775807 < P.length + N1.length := by omega
      have q2 : ¬ 9223372036854775807 < (P ++ N1).length + N2.length := by rw [List.length_append]; omega
      have q3 : ¬ 9223372036854775807 < (P ++ N1 ++ N2).length + y.length := by rw [List.length_append, List.length_append]; omega
      have s1 : (ByteArray.mk P.toArray ++ ByteArray.mk N1.toArray) = ByteArray.mk (P ++ N1).toArray := ByteArray.mk_append_mk _ _
      have s2 : (ByteArray.mk (P ++ N1).toArray ++ ByteArray.mk N2.toArray) = ByteArray.mk (P ++ N1 ++ N2).toArray := ByteArray.mk_append_mk _ _
      have s3 : (ByteArray.mk (P ++ N1 ++ N2).toArray ++ ByteArray.mk y.toArray) = ByteArray.mk (pP m (k + 1)).toArray := by rw [ByteArray.mk_append_mk, hfin.out]
      clear hfin
      generalize P ++ N1 ++ N2 = P2 at *
      generalize P ++ N1 = P1 at *
      have c2 := hcc.out wr hb.out
      go_wp2_with fail
      refine KS.out.mono ?_
      rintro e w2 ⟨rfl, b2⟩
      have hb2 := Lib.hid (hb.out.trans (b2.mono hb.out.size))
      clear b2 KS c2
      have c2 := cell_regrown (hcc.out w2 hb2.out)
      go_wp2_with fail
      refine wp_region_quiet_below (by kernel_rfl) (by kernel_rfl) ?_
      repeat (quiet_step (first | (with_reducible exact KA.out _ _ _) | (with_reducible exact KB.out _ _ _)))
      refine wpQuiet_nil ?_
      intro _ hw'
      obtain ⟨⟨dq, osq⟩, hw''⟩ := hw'
      subst hw''
      have hb3 := Lib.hid (hb2.out.trans ((below_regrown w2 dq osq).mono hb2.out.size))
      clear c2
      have c2 := hcc.out _ hb3.out
      go_wp2_with fail
      go_roundw
      case rel => exact ⟨k + 1, by omega, rfl, by rw [hpv.out], by go_num, hb3⟩
      case measure => simp [intOf]; omega
    · obtain rfl : k = m.length := by omega
      have d1 : decide ((m.length : Int) < (m.length : Int)) = false := decide_eq_false (by omega)
      go_wp2_with fail
      go_ret
      exact ⟨rfl, hb.out⟩
end Go.Proofs.Ytcicojobeggdaaa.po
