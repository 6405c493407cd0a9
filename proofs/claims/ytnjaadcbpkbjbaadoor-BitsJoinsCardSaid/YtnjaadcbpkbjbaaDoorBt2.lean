/-
  Bits: how many ones a word of sixty-four bits has, as the library reckons it.
-/
import Derived.Test.YtnjaadcbpkbjbaaDoorBt
namespace Go.Proofs.YtnjaadcbpkbjbaaDoor.bt

theorem and_split (q r m s : Nat) (hr : r < 256) (hs : s < 256) : (256 * q + r) &&& (256 * m + s) = 256 * (q &&& m) + (r &&& s) := by
  have hrs : r &&& s < 2 ^ 8 := Nat.lt_of_le_of_lt Nat.and_le_left hr
  have hr' : r < 2 ^ 8 := hr
  have hs' : s < 2 ^ 8 := hs
  apply Nat.eq_of_testBit_eq
  intro j
  rw [Nat.testBit_and, show (256 : Nat) = 2 ^ 8 from rfl, Nat.testBit_two_pow_mul_add q hr', Nat.testBit_two_pow_mul_add m hs', Nat.testBit_two_pow_mul_add (q &&& m) hrs]
  split
  · rw [Nat.testBit_and]
  · rw [Nat.testBit_and]

def M5 : Nat → Nat | 0 => 0 | n + 1 => 256 * M5 n + 85
def M3 : Nat → Nat | 0 => 0 | n + 1 => 256 * M3 n + 51
def Mf : Nat → Nat | 0 => 0 | n + 1 => 256 * Mf n + 15
def sA (n x : Nat) : Nat := ((x / 2) &&& M5 n) + (x &&& M5 n)
def sB (n x : Nat) : Nat := ((x / 4) &&& M3 n) + (x &&& M3 n)
def sC (n x : Nat) : Nat := (x / 16 + x) &&& Mf n
def a8 (r : Nat) : Nat := ((r / 2) &&& 85) + (r &&& 85)
def b8 (r : Nat) : Nat := ((r / 4) &&& 51) + (r &&& 51)
def c8 (r : Nat) : Nat := (r / 16 + r) &&& 15
def popF : Nat → Nat → Nat | 0, _ => 0 | f + 1, h => h % 2 + popF f (h / 2)

theorem low1 : ∀ b : Fin 2, ∀ r : Fin 256, (128 * b.val + r.val / 2) &&& 85 = (r.val / 2) &&& 85 := by decide +kernel
theorem low2 : ∀ b : Fin 4, ∀ r : Fin 256, (64 * b.val + r.val / 4) &&& 51 = (r.val / 4) &&& 51 := by decide +kernel
theorem low3 : ∀ b : Fin 5, ∀ r : Fin 256, (16 * b.val + r.val / 16 + b8 (a8 r.val)) &&& 15 = (r.val / 16 + b8 (a8 r.val)) &&& 15 := by decide +kernel
theorem low4 : ∀ b : Fin 5, ∀ r : Fin 256, (16 * b.val + (b8 (a8 r.val)) / 16 + b8 (a8 r.val)) &&& 15 = c8 (b8 (a8 r.val)) := by decide +kernel
theorem byte_fits : ∀ r : Fin 256, a8 r.val < 256 ∧ b8 (a8 r.val) ≤ 68 ∧ b8 (a8 r.val) % 16 ≤ 4 ∧ b8 (a8 r.val) / 16 ≤ 4 ∧ c8 (b8 (a8 r.val)) = popF 8 r.val ∧ popF 8 r.val ≤ 8 := by decide +kernel

theorem sA_step (n q r : Nat) (hr : r < 256) : sA (n + 1) (256 * q + r) = 256 * sA n q + a8 r := by
  unfold sA a8
  have e1 : (256 * q + r) / 2 = 256 * (q / 2) + (128 * (q % 2) + r / 2) := by omega
  rw [M5, e1, and_split _ _ _ _ (by omega) (by omega), and_split _ _ _ _ hr (by omega)]
  have := low1 ⟨q % 2, Nat.mod_lt _ (by omega)⟩ ⟨r, hr⟩
  simp only at this
  rw [this]
  omega

theorem sB_step (n q r : Nat) (hr : r < 256) : sB (n + 1) (256 * q + r) = 256 * sB n q + b8 r := by
  unfold sB b8
  have e1 : (256 * q + r) / 4 = 256 * (q / 4) + (64 * (q % 4) + r / 4) := by omega
  rw [M3, e1, and_split _ _ _ _ (by omega) (by omega), and_split _ _ _ _ hr (by omega)]
  have := low2 ⟨q % 4, Nat.mod_lt _ (by omega)⟩ ⟨r, hr⟩
  simp only at this
  rw [this]
  omega

/-- the bytes' ones, a byte each -/
def cB : Nat → Nat → Nat | 0, _ => 0 | n + 1, x => 256 * cB n (x / 256) + popF 8 (x % 256)

theorem swar : ∀ (n x : Nat), x < 256 ^ n → sC n (sB n (sA n x)) = cB n x ∧ sB n (sA n x) % 16 ≤ 4
  | 0, x, h => by
    have : x = 0 := by simpa using h
    subst this
    simp [sC, sB, sA, M5, M3, Mf, cB]
  | n + 1, x, h => by
    obtain ⟨q, r, hr, rfl⟩ : ∃ q r, r < 256 ∧ x = 256 * q + r := ⟨x / 256, x % 256, Nat.mod_lt _ (by omega), by omega⟩
    have hq : q < 256 ^ n := by rw [Nat.pow_succ] at h; omega
    obtain ⟨ih1, ih2⟩ := swar n q hq
    obtain ⟨f1, f2, f3, f4, f5, f6⟩ := byte_fits ⟨r, hr⟩
    simp only at f1 f2 f3 f4 f5 f6
    rw [sA_step n q r hr, sB_step n _ _ f1]
    obtain ⟨Q, hQ⟩ : ∃ Q, sB n (sA n q) = Q := ⟨_, rfl⟩
    obtain ⟨u, hu⟩ : ∃ u, b8 (a8 r) = u := ⟨_, rfl⟩
    have l4 := low4 ⟨Q % 16, by rw [hQ] at ih2; omega⟩ ⟨r, hr⟩
    simp only at l4
    rw [hQ] at ih1 ih2 ⊢
    rw [hu] at f2 f3 f4 f5 l4 ⊢
    refine ⟨?_, by omega⟩
    unfold sC at ih1 ⊢
    have e1 : (256 * Q + u) / 16 + (256 * Q + u) = 256 * (Q / 16 + Q) + (16 * (Q % 16) + u / 16 + u) := by omega
    rw [Mf, e1, and_split _ _ _ _ (by omega) (by omega), ih1, l4, f5, cB]
    rw [show (256 * q + r) / 256 = q by omega, show (256 * q + r) % 256 = r by omega]

theorem popF_byte (f x : Nat) : popF (f + 8) x = popF 8 (x % 256) + popF f (x / 256) := by
  simp only [popF, Nat.div_div_eq_div_mul]
  have e : x / (2 * 2 * 2 * 2 * 2 * 2 * 2 * 2) = x / 256 := rfl
  rw [e]
  omega

theorem len_bits : ∀ (f h o : Nat), (bitsF f h o).length = popF f h
  | 0, _, _ => rfl
  | f + 1, h, o => by
    unfold bitsF popF
    rw [List.length_append, len_bits f]
    split
    · rename_i h1; simp [h1]
    · rename_i h1
      have : h % 2 = 0 := by omega
      simp [this]

theorem dv (k p X : Nat) (h : p < k) : (p + k * X) / k = X := by
  rw [Nat.add_mul_div_left _ _ (by omega), Nat.div_eq_of_lt h, Nat.zero_add]

/-- the last three steps: eight numbers of one byte each are added up -/
theorem adds (p0 p1 p2 p3 p4 p5 p6 p7 c d e g : Nat) (h0 : p0 ≤ 8) (h1 : p1 ≤ 8) (h2 : p2 ≤ 8) (h3 : p3 ≤ 8) (h4 : p4 ≤ 8) (h5 : p5 ≤ 8) (h6 : p6 ≤ 8) (h7 : p7 ≤ 8)
    (hc : c = p0 + 256 * (p1 + 256 * (p2 + 256 * (p3 + 256 * (p4 + 256 * (p5 + 256 * (p6 + 256 * p7))))))) (hd : d = c + c / 256) (he : e = d + d / 65536) (hg : g = e + e / 4294967296) :
    g % 128 = p0 + p1 + p2 + p3 + p4 + p5 + p6 + p7 ∧ c < 18446744073709551616 ∧ d < 18446744073709551616 ∧ e < 18446744073709551616 ∧ g < 9223372036854775808 := by
  have hc1 : c / 256 = p1 + 256 * (p2 + 256 * (p3 + 256 * (p4 + 256 * (p5 + 256 * (p6 + 256 * p7))))) := by rw [hc]; exact dv 256 _ _ (by omega)
  rw [hc1] at hd
  have hd1 : d / 65536 = (p2 + p3) + 256 * ((p3 + p4) + 256 * ((p4 + p5) + 256 * ((p5 + p6) + 256 * ((p6 + p7) + 256 * p7)))) := by
    have : d = ((p0 + p1) + 256 * (p1 + p2)) + 65536 * ((p2 + p3) + 256 * ((p3 + p4) + 256 * ((p4 + p5) + 256 * ((p5 + p6) + 256 * ((p6 + p7) + 256 * p7))))) := by clear hc1 he hg; omega
    rw [this]
    exact dv 65536 _ _ (by clear hc1 he hg hd hc; omega)
  rw [hd1] at he
  have he1 : e / 4294967296 = (p4 + p5 + p6 + p7) + 256 * ((p5 + p6 + p7) + 256 * ((p6 + p7) + 256 * p7)) := by
    have : e = ((p0 + p1 + p2 + p3) + 256 * ((p1 + p2 + p3 + p4) + 256 * ((p2 + p3 + p4 + p5) + 256 * (p3 + p4 + p5 + p6)))) + 4294967296 * ((p4 + p5 + p6 + p7) + 256 * ((p5 + p6 + p7) + 256 * ((p6 + p7) + 256 * p7))) := by clear hc1 hd1 hg; omega
    rw [this]
    exact dv 4294967296 _ _ (by clear hc1 hd1 he hg hd hc; omega)
  rw [he1] at hg
  clear hc1 hd1 he1
  have hg2 : ∃ X, g = (p0 + p1 + p2 + p3 + p4 + p5 + p6 + p7) + 256 * X := ⟨(p1 + p2 + p3 + p4 + p5 + p6 + p7) + 256 * ((p2 + p3 + p4 + p5 + p6 + p7) + 256 * ((p3 + p4 + p5 + p6 + p7) + 256 * ((p4 + p5 + p6 + p7) + 256 * ((p5 + p6 + p7) + 256 * ((p6 + p7) + 256 * p7))))), by omega⟩
  refine ⟨?_, by clear hg2 hg he hd; omega, by clear hg2 hg he; omega, by clear hg2 hg; omega, by clear hg2; omega⟩
  obtain ⟨X, hX⟩ := hg2
  clear hg he hd hc
  omega

theorem pop_eq (h : Nat) : pop h = popF 64 h := len_bits 64 h 0

/-- what OnesCount64 reckons -/
theorem ones64 (x : Nat) (hx : x < 2 ^ 64) (a b c d e g : Nat) (ha : a = ((x / 2) &&& 6148914691236517205) + (x &&& 6148914691236517205)) (hb : b = ((a / 4) &&& 3689348814741910323) + (a &&& 3689348814741910323))
    (hc : c = (b / 16 + b) &&& 1085102592571150095) (hd : d = c + c / 256) (he : e = d + d / 65536) (hg : g = e + e / 4294967296) : g % 128 = pop x ∧ pop x ≤ 64 ∧ a < 2 ^ 64 ∧ b < 2 ^ 64 ∧ b / 16 + b < 2 ^ 64 ∧ c < 2 ^ 64 ∧ d < 2 ^ 64 ∧ e < 2 ^ 64 ∧ g < 2 ^ 63 := by
  have m5 : M5 8 = 6148914691236517205 := by decide
  have m3 : M3 8 = 3689348814741910323 := by decide
  have mf : Mf 8 = 1085102592571150095 := by decide
  have hs := (swar 8 x (by simpa using hx)).1
  have ea : sA 8 x = a := by unfold sA; rw [m5, ha]
  have eb : sB 8 a = b := by unfold sB; rw [m3, hb]
  have ec : sC 8 b = c := by unfold sC; rw [mf, hc]
  rw [ea, eb, ec] at hs
  have la1 : (x / 2) &&& 6148914691236517205 ≤ 6148914691236517205 := Nat.and_le_right
  have la2 : x &&& 6148914691236517205 ≤ 6148914691236517205 := Nat.and_le_right
  have lb1 : (a / 4) &&& 3689348814741910323 ≤ 3689348814741910323 := Nat.and_le_right
  have lb2 : a &&& 3689348814741910323 ≤ 3689348814741910323 := Nat.and_le_right
  have hp : ∀ y, popF 8 (y % 256) ≤ 8 := fun y => (byte_fits ⟨y % 256, Nat.mod_lt _ (by omega)⟩).2.2.2.2.2
  have hpop : pop x = popF 8 (x % 256) + (popF 8 (x / 256 % 256) + (popF 8 (x / 256 / 256 % 256) + (popF 8 (x / 256 / 256 / 256 % 256) + (popF 8 (x / 256 / 256 / 256 / 256 % 256) + (popF 8 (x / 256 / 256 / 256 / 256 / 256 % 256) + (popF 8 (x / 256 / 256 / 256 / 256 / 256 / 256 % 256) + popF 8 (x / 256 / 256 / 256 / 256 / 256 / 256 / 256 % 256))))))) := by
    rw [pop_eq]
    have e0 : popF 64 (x) = popF 8 ((x) % 256) + popF 56 ((x) / 256) := popF_byte 56 (x)
    have e1 : popF 56 (x / 256) = popF 8 ((x / 256) % 256) + popF 48 ((x / 256) / 256) := popF_byte 48 (x / 256)
    have e2 : popF 48 (x / 256 / 256) = popF 8 ((x / 256 / 256) % 256) + popF 40 ((x / 256 / 256) / 256) := popF_byte 40 (x / 256 / 256)
    have e3 : popF 40 (x / 256 / 256 / 256) = popF 8 ((x / 256 / 256 / 256) % 256) + popF 32 ((x / 256 / 256 / 256) / 256) := popF_byte 32 (x / 256 / 256 / 256)
    have e4 : popF 32 (x / 256 / 256 / 256 / 256) = popF 8 ((x / 256 / 256 / 256 / 256) % 256) + popF 24 ((x / 256 / 256 / 256 / 256) / 256) := popF_byte 24 (x / 256 / 256 / 256 / 256)
    have e5 : popF 24 (x / 256 / 256 / 256 / 256 / 256) = popF 8 ((x / 256 / 256 / 256 / 256 / 256) % 256) + popF 16 ((x / 256 / 256 / 256 / 256 / 256) / 256) := popF_byte 16 (x / 256 / 256 / 256 / 256 / 256)
    have e6 : popF 16 (x / 256 / 256 / 256 / 256 / 256 / 256) = popF 8 ((x / 256 / 256 / 256 / 256 / 256 / 256) % 256) + popF 8 ((x / 256 / 256 / 256 / 256 / 256 / 256) / 256) := popF_byte 8 (x / 256 / 256 / 256 / 256 / 256 / 256)
    have e7 : popF 8 (x / 256 / 256 / 256 / 256 / 256 / 256 / 256) = popF 8 ((x / 256 / 256 / 256 / 256 / 256 / 256 / 256) % 256) + popF 0 ((x / 256 / 256 / 256 / 256 / 256 / 256 / 256) / 256) := popF_byte 0 (x / 256 / 256 / 256 / 256 / 256 / 256 / 256)
    have e8 : popF 0 (x / 256 / 256 / 256 / 256 / 256 / 256 / 256 / 256) = 0 := rfl
    omega
  simp only [cB] at hs
  have h0 := hp x
  have h1 := hp (x / 256)
  have h2 := hp (x / 256 / 256)
  have h3 := hp (x / 256 / 256 / 256)
  have h4 := hp (x / 256 / 256 / 256 / 256)
  have h5 := hp (x / 256 / 256 / 256 / 256 / 256)
  have h6 := hp (x / 256 / 256 / 256 / 256 / 256 / 256)
  have h7 := hp (x / 256 / 256 / 256 / 256 / 256 / 256 / 256)
  generalize popF 8 (x % 256) = p0 at *
  generalize popF 8 (x / 256 % 256) = p1 at *
  generalize popF 8 (x / 256 / 256 % 256) = p2 at *
  generalize popF 8 (x / 256 / 256 / 256 % 256) = p3 at *
  generalize popF 8 (x / 256 / 256 / 256 / 256 % 256) = p4 at *
  generalize popF 8 (x / 256 / 256 / 256 / 256 / 256 % 256) = p5 at *
  generalize popF 8 (x / 256 / 256 / 256 / 256 / 256 / 256 % 256) = p6 at *
  generalize popF 8 (x / 256 / 256 / 256 / 256 / 256 / 256 / 256 % 256) = p7 at *
  have haa : a ≤ 12297829382473034410 := by clear hs hpop hd he hg hb hc; omega
  have hbb : b ≤ 7378697629483820646 := by clear hs hpop hd he hg ha hc haa; omega
  obtain ⟨r1, r2, r3, r4, r5⟩ := adds p0 p1 p2 p3 p4 p5 p6 p7 c d e g h0 h1 h2 h3 h4 h5 h6 h7 (by clear hpop hd he hg ha hb hc ea eb ec; omega) hd he hg
  clear ea eb ec ha hb hc hp m5 m3 mf la1 la2 lb1 lb2 hs hd he hg
  refine ⟨by omega, by omega, by omega, by omega, by omega, by omega, by omega, by omega, by omega⟩
end Go.Proofs.YtnjaadcbpkbjbaaDoor.bt
