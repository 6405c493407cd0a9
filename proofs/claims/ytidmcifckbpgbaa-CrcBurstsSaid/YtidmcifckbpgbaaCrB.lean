/-
  crc: the sum of bytes is linear in their bits; a text with its sum behind it comes to 0; bits turned close together never come to 0.
-/
import Derived.Test.YtidmcifckbpgbaaCr5
namespace Go.Proofs.Ytidmcifckbpgbaa.cr
open Go.RowKit

/-! ### The step is linear, and one for one -/
theorem two_xor (a b : Nat) : 2 * (a ^^^ b) = (2 * a) ^^^ (2 * b) := by
  have h := Nat.shiftLeft_xor_distrib (a := a) (b := b) (i := 1)
  rw [Nat.shiftLeft_eq, Nat.shiftLeft_eq, Nat.shiftLeft_eq] at h
  rw [Nat.mul_comm 2, Nat.mul_comm 2, Nat.mul_comm 2]
  exact h

theorem xor4 (a b c d : Nat) : (a ^^^ b) ^^^ (c ^^^ d) = (a ^^^ c) ^^^ (b ^^^ d) := by
  rw [Nat.xor_assoc, ← Nat.xor_assoc b c d, Nat.xor_comm b c, Nat.xor_assoc c b d, ← Nat.xor_assoc a c]

theorem if_xor (p q : Bool) (c : Nat) : (if xor p q then c else 0) = (if p then c else 0) ^^^ (if q then c else 0) := by
  cases p <;> cases q <;> simp

/-- the step as one word: the top bit takes the polynomial off -/
theorem stepN_bit (v : Nat) (hv : v < 16777216) : stepN v = (2 * v) ^^^ (if v.testBit 23 then 25578747 else 0) := by
  have ht : v.testBit 23 = decide (8388608 ≤ v) := by
    rw [Nat.testBit_eq_decide_div_mod_eq]
    by_cases h : 8388608 ≤ v
    · have : v / 2 ^ 23 = 1 := by omega
      rw [this]; simp [h]
    · have : v / 2 ^ 23 = 0 := by omega
      rw [this]; simp [h]
  unfold stepN
  rw [ht]
  by_cases h : 8388608 ≤ v
  · rw [if_neg (by omega), if_pos (by simpa using h)]
  · rw [if_pos (by omega), if_neg (by simpa using h), Nat.xor_zero]

theorem stepN_xor (a b : Nat) (ha : a < 16777216) (hb : b < 16777216) : stepN (a ^^^ b) = stepN a ^^^ stepN b := by
  have hab : a ^^^ b < 16777216 := Nat.xor_lt_two_pow (n := 24) ha hb
  rw [stepN_bit _ ha, stepN_bit _ hb, stepN_bit _ hab, two_xor, Nat.testBit_xor, if_xor, xor4]

theorem iterN_xor (k a b : Nat) (ha : a < 16777216) (hb : b < 16777216) : iterN k (a ^^^ b) = iterN k a ^^^ iterN k b := by
  have lt : ∀ k v, v < 16777216 → iterN k v < 16777216 := by
    intro k v hv
    induction k with
    | zero => exact hv
    | succ k ih => exact stepN_lt _ ih
  induction k with
  | zero => rfl
  | succ k ih => rw [iterN, iterN, iterN, ih, stepN_xor _ _ (lt k a ha) (lt k b hb)]

theorem stepN_zero (v : Nat) (h : stepN v = 0) : v = 0 := by
  unfold stepN at h
  by_cases h2 : 2 * v < 16777216
  · rw [if_pos h2] at h; omega
  · rw [if_neg h2] at h
    have h3 := congrArg (fun x => Nat.testBit x 0) h
    simp only [Nat.testBit_xor, Nat.zero_testBit] at h3
    rw [Nat.testBit_eq_decide_div_mod_eq, Nat.testBit_eq_decide_div_mod_eq] at h3
    have e : 2 * v / 2 ^ 0 % 2 = 0 := by omega
    rw [e] at h3
    exact absurd h3 (by decide)

theorem iterN_zero (k v : Nat) (h : iterN k v = 0) : v = 0 := by
  induction k with
  | zero => exact h
  | succ k ih => exact ih (stepN_zero _ h)

/-- one bit goes in -/
def feed (v : Nat) (b : Bool) : Nat := stepN (v ^^^ (if b then 8388608 else 0))
/-- bits go in, the first n of f -/
def feeds (v : Nat) (f : Nat → Bool) : Nat → Nat
  | 0 => v
  | n + 1 => feed (feeds v f n) (f n)

theorem bitw_lt (b : Bool) : (if b then 8388608 else 0) < 16777216 := by cases b <;> decide
theorem feed_lt (v : Nat) (b : Bool) (hv : v < 16777216) : feed v b < 16777216 := stepN_lt _ (Nat.xor_lt_two_pow (n := 24) hv (bitw_lt b))
theorem feeds_lt (v : Nat) (f : Nat → Bool) (n : Nat) (hv : v < 16777216) : feeds v f n < 16777216 := by
  induction n with
  | zero => exact hv
  | succ n ih => exact feed_lt _ _ ih

theorem feeds_xor (a b : Nat) (f g : Nat → Bool) (n : Nat) (ha : a < 16777216) (hb : b < 16777216) : feeds (a ^^^ b) (fun i => xor (f i) (g i)) n = feeds a f n ^^^ feeds b g n := by
  induction n with
  | zero => rfl
  | succ n ih =>
    have h1 := feeds_lt a f n ha
    have h2 := feeds_lt b g n hb
    simp only [feeds]
    rw [ih]
    unfold feed
    have e : (feeds a f n ^^^ feeds b g n) ^^^ (if xor (f n) (g n) then 8388608 else 0) = (feeds a f n ^^^ (if f n then 8388608 else 0)) ^^^ (feeds b g n ^^^ (if g n then 8388608 else 0)) := by
      rw [if_xor, xor4]
    rw [e, stepN_xor _ _ (Nat.xor_lt_two_pow (n := 24) h1 (bitw_lt _)) (Nat.xor_lt_two_pow (n := 24) h2 (bitw_lt _))]

/-- noughts leave 0 as it is, and what is not 0 not 0 -/
theorem feeds_none (v : Nat) (f : Nat → Bool) (n : Nat) (h : ∀ i, i < n → f i = false) : feeds v f n = iterN n v := by
  induction n with
  | zero => rfl
  | succ n ih =>
    rw [feeds, iterN, ih fun i hi => h i (by omega), h n (by omega)]
    unfold feed
    simp

theorem iterN_at_zero (n : Nat) : iterN n 0 = 0 := by
  induction n with
  | zero => rfl
  | succ n ih => rw [iterN, ih]; decide

/-- a nought bit moves up without a turn -/
theorem iterN_up (j k : Nat) (h : j + k ≤ 23) : iterN j (2 ^ k) = 2 ^ (j + k) := by
  induction j with
  | zero => simp [iterN]
  | succ j ih =>
    rw [iterN, ih (by omega)]
    unfold stepN
    have h1 : 2 ^ (j + k) ≤ 2 ^ 22 := Nat.pow_le_pow_right (by omega) (by omega)
    rw [if_pos (by omega), show j + 1 + k = (j + k) + 1 by omega, Nat.pow_succ, Nat.mul_comm]

/-- the word of the first j bits of a burst -/
def word (f : Nat → Bool) : Nat → Nat
  | 0 => 0
  | j + 1 => word f j ^^^ (if f j then 2 ^ (23 - j) else 0)

theorem word_lt (f : Nat → Bool) (j : Nat) : word f j < 16777216 := by
  induction j with
  | zero => rw [word]; omega
  | succ j ih =>
    rw [word]
    refine Nat.xor_lt_two_pow (n := 24) ih ?_
    split
    · exact Nat.pow_lt_pow_right (by omega) (by omega)
    · omega

theorem pw_lt (b : Bool) (j : Nat) : (if b then 2 ^ (23 - j) else 0) < 16777216 := by
  split
  · exact Nat.pow_lt_pow_right (n := 24) (by omega) (by omega)
  · omega

theorem feeds_word (f : Nat → Bool) (j : Nat) (hj : j ≤ 24) : feeds 0 f j = iterN j (word f j) := by
  induction j with
  | zero => rfl
  | succ j ih =>
    rw [feeds, ih (by omega), word, iterN]
    unfold feed
    congr 1
    rw [iterN_xor _ _ _ (word_lt f j) (pw_lt _ _)]
    congr 1
    cases f j
    · simp [iterN_at_zero]
    · have := iterN_up j (23 - j) (by omega)
      simp only [if_true]
      rw [this, show j + (23 - j) = 23 by omega]

theorem word_bit (f : Nat → Bool) (j : Nat) (hj : j ≤ 24) (i : Nat) (hi : i < j) : (word f j).testBit (23 - i) = f i := by
  induction j with
  | zero => omega
  | succ j ih =>
    rw [word, Nat.testBit_xor]
    by_cases h : i = j
    · subst h
      have : (word f i).testBit (23 - i) = false := by
        have low : ∀ m, m ≤ i → ∀ q, q ≤ 23 - m → (word f m).testBit q = false := by
          intro m hm
          induction m with
          | zero => intro q _; simp [word]
          | succ m ih2 =>
            intro q hq
            rw [word, Nat.testBit_xor, ih2 (by omega) q (by omega)]
            split
            · rw [Nat.testBit_two_pow]; simp; omega
            · simp
        exact low i (Nat.le_refl _) _ (Nat.le_refl _)
      rw [this]
      cases f i
      · simp
      · simp [Nat.testBit_two_pow_self]
    · rw [ih (by omega) (by omega)]
      split
      · rw [Nat.testBit_two_pow]
        have : decide (23 - j = 23 - i) = false := by simp; omega
        rw [this]; simp
      · simp

/-- A BURST IS SEEN: bits within twenty-four of one another, one of them set, never come to 0. -/
theorem burst (f : Nat → Bool) (a n : Nat) (h1 : ∀ i, f i = true → a ≤ i ∧ i < a + 24) (i : Nat) (hi : f i = true) (hin : i < n) : feeds 0 f n ≠ 0 := by
  have hsplit : ∀ (m k : Nat) (v : Nat), feeds v f (m + k) = feeds (feeds v f m) (fun q => f (m + q)) k := by
    intro m k v
    induction k with
    | zero => rfl
    | succ k ih => rw [← Nat.add_assoc, feeds, ih]; rfl
  obtain ⟨ha, hb⟩ := h1 i hi
  have hz : feeds 0 f a = 0 := by
    rw [feeds_none 0 f a fun q hq => by
      rcases h : f q with _ | _
      · rfl
      · have := h1 q h; omega]
    exact iterN_at_zero a
  intro hn
  by_cases hlen : n ≤ a + 24
  · obtain ⟨j, rfl⟩ : ∃ j, n = a + j := ⟨n - a, by omega⟩
    rw [hsplit, hz, feeds_word _ j (by omega)] at hn
    have := iterN_zero _ _ hn
    have hw := word_bit (fun q => f (a + q)) j (by omega) (i - a) (by omega)
    rw [this] at hw
    simp only [Nat.zero_testBit] at hw
    rw [show a + (i - a) = i by omega, hi] at hw
    cases hw
  · obtain ⟨j, rfl⟩ : ∃ j, n = (a + 24) + j := ⟨n - (a + 24), by omega⟩
    rw [hsplit, feeds_none _ _ j fun q hq => by
      rcases h : f (a + 24 + q) with _ | _
      · rfl
      · have := h1 _ h; omega] at hn
    have h0 := iterN_zero _ _ hn
    rw [hsplit, hz, feeds_word _ 24 (by omega)] at h0
    have := iterN_zero _ _ h0
    have hw := word_bit (fun q => f (a + q)) 24 (by omega) (i - a) (by omega)
    rw [this] at hw
    simp only [Nat.zero_testBit] at hw
    rw [show a + (i - a) = i by omega, hi] at hw
    cases hw
/-! ### Bytes as bits, most significant ones first -/
def bitAt (l : List UInt8) (i : Nat) : Bool := ((l.getD (i / 8) 0).toNat).testBit (7 - i % 8)

theorem word_byte : ∀ b : Fin 256, word (fun i => b.val.testBit (7 - i)) 8 = b.val * 65536 := by decide +kernel

theorem feeds_congr (v : Nat) (f g : Nat → Bool) (n : Nat) (h : ∀ i, i < n → f i = g i) : feeds v f n = feeds v g n := by
  induction n with
  | zero => rfl
  | succ n ih => rw [feeds, feeds, ih fun i hi => h i (by omega), h n (by omega)]

theorem feeds_split (v : Nat) (f : Nat → Bool) (m k : Nat) : feeds v f (m + k) = feeds (feeds v f m) (fun q => f (m + q)) k := by
  induction k with
  | zero => rfl
  | succ k ih => rw [← Nat.add_assoc, feeds, ih]; rfl

theorem feeds_lin (v : Nat) (f : Nat → Bool) (n : Nat) (hv : v < 16777216) : feeds v f n = iterN n v ^^^ feeds 0 f n := by
  have h := feeds_xor v 0 (fun _ => false) f n hv (by omega)
  rw [Nat.xor_zero] at h
  rw [← feeds_none v (fun _ => false) n fun _ _ => rfl, ← h]
  exact feeds_congr _ _ _ _ fun i _ => by simp

theorem withN_feeds (v : Nat) (c : UInt8) (hv : v < 16777216) : withN v c.toNat = feeds v (fun i => c.toNat.testBit (7 - i)) 8 := by
  have hc := c.toNat_lt
  have hb := word_byte ⟨c.toNat, by omega⟩
  simp only at hb
  rw [feeds_lin _ _ _ hv, feeds_word _ 8 (by omega), hb]
  unfold withN
  rw [iterN_xor _ _ _ hv (by omega)]

theorem sumFrom_feeds (l : List UInt8) : ∀ v, v < 16777216 → sumFrom v l = feeds v (bitAt l) (8 * l.length) := by
  induction l with
  | nil => intro v _; rfl
  | cons c r ih =>
    intro v hv
    rw [sumFrom, ih _ (withN_lt v _ hv (by have := c.toNat_lt; omega)), withN_feeds v c hv, List.length_cons, show 8 * (r.length + 1) = 8 + 8 * r.length by omega, feeds_split]
    have e1 : feeds v (bitAt (c :: r)) 8 = feeds v (fun i => c.toNat.testBit (7 - i)) 8 := feeds_congr _ _ _ _ fun i hi => by
      unfold bitAt
      rw [show i / 8 = 0 by omega, show i % 8 = i by omega]
      rfl
    rw [e1]
    exact feeds_congr _ _ _ _ fun i _ => by
      unfold bitAt
      rw [show (8 + i) / 8 = i / 8 + 1 by omega, show (8 + i) % 8 = i % 8 by omega]
      rfl

/-! ### A text with its sum comes to 0, and no other -/
theorem up8 : ∀ b : Fin 256, iterN 8 (b.val * 256) = b.val * 65536 := by decide +kernel
theorem up16 : ∀ b : Fin 256, iterN 16 b.val = b.val * 65536 := by decide +kernel

theorem iterN_add (j k v : Nat) : iterN (j + k) v = iterN j (iterN k v) := by
  induction j with
  | zero => rw [Nat.zero_add]; rfl
  | succ j ih => rw [show j + 1 + k = (j + k) + 1 by omega, iterN, ih]; rfl

theorem x_lt {a b : Nat} (ha : a < 16777216) (hb : b < 16777216) : a ^^^ b < 16777216 := Nat.xor_lt_two_pow (n := 24) ha hb

theorem three (v : Nat) (a b c : UInt8) (hv : v < 16777216) : sumFrom v [a, b, c] = iterN 24 (v ^^^ a.toNat * 65536 ^^^ b.toNat * 256 ^^^ c.toNat) := by
  have ha := a.toNat_lt
  have hb := b.toNat_lt
  have hc := c.toNat_lt
  have h8 := up8 ⟨b.toNat, by omega⟩
  have h16 := up16 ⟨c.toNat, by omega⟩
  simp only at h8 h16
  have l1 : v ^^^ a.toNat * 65536 < 16777216 := x_lt hv (by omega)
  rw [sumFrom, sumFrom, sumFrom, sumFrom]
  unfold withN
  rw [← h8, ← iterN_xor 8 _ _ l1 (by omega), ← iterN_add, ← h16, ← iterN_xor 16 _ _ (x_lt l1 (by omega)) (by omega), ← iterN_add]

theorem join_xor (a b k : Nat) (hb : b < 2 ^ k) : a * 2 ^ k ^^^ b = a * 2 ^ k + b := by
  have hp : 0 < 2 ^ k := Nat.pow_pos (by omega)
  have hd : (a * 2 ^ k ^^^ b) / 2 ^ k = a := by
    rw [Nat.xor_div_two_pow, Nat.mul_div_cancel _ hp, Nat.div_eq_of_lt hb, Nat.xor_zero]
  have hm : (a * 2 ^ k ^^^ b) % 2 ^ k = b := by
    rw [Nat.xor_mod_two_pow, Nat.mul_mod_left, Nat.zero_xor, Nat.mod_eq_of_lt hb]
  have := Nat.div_add_mod (a * 2 ^ k ^^^ b) (2 ^ k)
  rw [hd, hm] at this
  rw [← this, Nat.mul_comm]

theorem three_zero (v : Nat) (a b c : UInt8) (hv : v < 16777216) : sumFrom v [a, b, c] = 0 ↔ v = a.toNat * 65536 + b.toNat * 256 + c.toNat := by
  have ha := a.toNat_lt
  have hb := b.toNat_lt
  have hc := c.toNat_lt
  have e : a.toNat * 65536 ^^^ b.toNat * 256 ^^^ c.toNat = a.toNat * 65536 + b.toNat * 256 + c.toNat := by
    have e1 := join_xor a.toNat (b.toNat * 256) 16 (by omega)
    have e2 := join_xor (a.toNat * 256 + b.toNat) c.toNat 8 (by omega)
    rw [show (2 : Nat) ^ 16 = 65536 from rfl] at e1
    rw [show (2 : Nat) ^ 8 = 256 from rfl] at e2
    rw [e1, show a.toNat * 65536 + b.toNat * 256 = (a.toNat * 256 + b.toNat) * 256 by omega, e2]
  rw [three v a b c hv, Nat.xor_assoc v, Nat.xor_assoc v, e]
  have hl : a.toNat * 65536 + b.toNat * 256 + c.toNat < 16777216 := by omega
  constructor
  · intro h
    have := iterN_zero _ _ h
    have h2 : v ^^^ (a.toNat * 65536 + b.toNat * 256 + c.toNat) ^^^ (a.toNat * 65536 + b.toNat * 256 + c.toNat) = v := by rw [Nat.xor_assoc, Nat.xor_self, Nat.xor_zero]
    rw [this, Nat.zero_xor] at h2
    exact h2.symm
  · intro h
    rw [← h, Nat.xor_self]
    exact iterN_at_zero 24

/-! ### What is sealed comes to 0 -/
theorem last3 (l : List UInt8) (h : 3 ≤ l.length) : ∃ a b c, l = l.take (l.length - 3) ++ [a, b, c] := by
  have hd : (l.drop (l.length - 3)).length = 3 := by rw [List.length_drop]; omega
  rcases he : l.drop (l.length - 3) with _ | ⟨a, _ | ⟨b, _ | ⟨c, _ | ⟨d, r⟩⟩⟩⟩
  all_goals rw [he] at hd; simp at hd
  exact ⟨a, b, c, by rw [← he, List.take_append_drop]⟩

theorem ofNat_eq (z : Nat) (a : UInt8) (h : z < 256) : UInt8.ofNat z = a ↔ z = a.toNat := by
  rw [← UInt8.toNat_inj]
  have : (UInt8.ofNat z).toNat = z := by
    show z % 256 = z
    omega
  rw [this]

theorem tail_list (z : Nat) : (tailN z).data.toList = [UInt8.ofNat (z / 65536), UInt8.ofNat (z / 256 % 256), UInt8.ofNat (z % 256)] := by
  unfold tailN
  rw [strOfNums_data]
  have e1 : ((z : Int) / 65536).toNat = z / 65536 := by omega
  have e2 : ((z : Int) / 256 % 256).toNat = z / 256 % 256 := by omega
  have e3 : ((z : Int) % 256).toNat = z % 256 := by omega
  simp only [List.map_cons, List.map_nil, e1, e2, e3]

theorem app_data (a b : ByteArray) : (a ++ b).data.toList = a.data.toList ++ b.data.toList := by simp

theorem take_data (t : ByteArray) (k : Nat) : (t.extract 0 k).data.toList = t.data.toList.take k := by simp [ByteArray.data_extract]

theorem ok_zero (t : ByteArray) (h3 : 3 ≤ t.size) : okS t = true ↔ sumN t.data.toList = 0 := by
  have hl := size_list t
  obtain ⟨a, b, c, habc⟩ := last3 t.data.toList (by omega)
  have hx : (t.extract 0 (t.size - 3)).data.toList = t.data.toList.take (t.data.toList.length - 3) := by
    rw [hl]
    exact take_data t _
  rw [okS_long t h3 _ rfl, ByteArray.toList_eq, ByteArray.toList_eq, beq_iff_eq]
  have hs : (sealS (t.extract 0 (t.size - 3))).data.toList = t.data.toList.take (t.data.toList.length - 3) ++ (tailN (sumN (t.data.toList.take (t.data.toList.length - 3)))).data.toList := by
    unfold sealS
    rw [← hx, app_data]
  rw [hs]
  have hz : sumN (t.data.toList.take (t.data.toList.length - 3)) < 16777216 := sumN_lt _
  have hsum : sumN t.data.toList = sumFrom (sumN (t.data.toList.take (t.data.toList.length - 3))) [a, b, c] := by
    conv => lhs; rw [habc]
    unfold sumN
    rw [sumFrom_append]
  rw [hsum, three_zero _ _ _ _ hz]
  generalize sumN (t.data.toList.take (t.data.toList.length - 3)) = z at *
  conv => lhs; rhs; rw [habc]
  rw [List.append_cancel_left_eq, tail_list]
  simp only [List.cons.injEq, and_true]
  rw [ofNat_eq _ _ (by omega), ofNat_eq _ _ (by omega), ofNat_eq _ _ (by omega)]
  have ha := a.toNat_lt
  have hb := b.toNat_lt
  have hc := c.toNat_lt
  omega

theorem seal_size (s : ByteArray) : (sealS s).size = s.size + 3 := by
  unfold sealS tailN
  rw [ByteArray.size_append, strOfNums_size]
  rfl

theorem ext_app (a b : ByteArray) : (a ++ b).extract 0 a.size = a := by
  apply ByteArray.ext
  apply Array.ext'
  rw [take_data, app_data, ← size_list a, List.take_left]

theorem seal_ok (s : ByteArray) : okS (sealS s) = true := by
  have hz := seal_size s
  have e : (sealS s).extract 0 ((sealS s).size - 3) = s := by
    rw [hz, Nat.add_sub_cancel]
    exact ext_app s _
  rw [okS_long _ (by omega) _ rfl, e, beq_iff_eq]

/-- WHAT IS TURNED CLOSE TOGETHER IS SEEN -/
theorem turned_seen (t u : ByteArray) (ht : okS t = true) (h3 : 3 ≤ t.size) (hsz : u.size = t.size) (first bits : Nat)
    (hu : ∀ i, i < 8 * t.size → bitAt u.data.toList i = xor (bitAt t.data.toList i) (decide (first ≤ i ∧ i < first + 24) && bits.testBit (i - first))) :
    okS u = true ↔ ∀ i, i < 8 * t.size → (decide (first ≤ i ∧ i < first + 24) && bits.testBit (i - first)) = false := by
  have hlt := size_list t
  have hlu := size_list u
  have h0 := (ok_zero t h3).1 ht
  rw [ok_zero u (by omega)]
  unfold sumN at h0 ⊢
  rw [sumFrom_feeds _ _ (by omega), hlt] at h0
  rw [sumFrom_feeds _ _ (by omega), hlu, hsz]
  generalize he : (fun i => decide (first ≤ i ∧ i < first + 24) && bits.testBit (i - first)) = e
  have hx : feeds 11994318 (bitAt u.data.toList) (8 * t.size) = feeds 11994318 (bitAt t.data.toList) (8 * t.size) ^^^ feeds 0 e (8 * t.size) := by
    have := feeds_xor 11994318 0 (bitAt t.data.toList) e (8 * t.size) (by omega) (by omega)
    rw [Nat.xor_zero] at this
    rw [← this]
    exact feeds_congr _ _ _ _ fun i hi => by rw [hu i hi, ← he]
  rw [hx, h0, Nat.zero_xor]
  constructor
  · intro hz i hi
    have hei : (decide (first ≤ i ∧ i < first + 24) && bits.testBit (i - first)) = e i := by rw [← he]
    rw [hei]
    rcases hb : e i with _ | _
    · rfl
    · refine absurd hz (burst e first _ (fun q hq => ?_) i hb hi)
      rw [← he] at hq
      simp only [Bool.and_eq_true, decide_eq_true_eq] at hq
      exact hq.1
  · intro h
    rw [feeds_none 0 e _ fun i hi => by rw [← he]; exact h i hi]
    exact iterN_at_zero _
end Go.Proofs.Ytidmcifckbpgbaa.cr
