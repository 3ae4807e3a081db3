/- Plain mathematics of floats: what number a word is, in units of the least one; how words are compared, summed, multiplied. No program is named. -/
import Ieee.Arith
import Derived.Laws.FloatBits
set_option linter.unusedVariables false
set_option linter.unusedSimpArgs false
namespace Go.Proofs.Ytjljojnedaclgaa
open Ieee

/-- One, in units of the least number. -/
theorem ilt (a b : Int) : a < b ∨ b ≤ a := by omega
def E : Nat := 1074
theorem E_def : E = 1074 := rfl
attribute [irreducible] E
def U : Nat := 2 ^ E
theorem U_pos : 0 < U := Nat.two_pow_pos _
theorem U_def : U = 2 ^ E := rfl
attribute [irreducible] U

theorem signed_add (s : Bool) (m a b : Nat) : signed s m (a + b) = signed s m a * ((2 ^ b : Nat) : Int) := by
  unfold signed
  simp only [Nat.shiftLeft_eq, Nat.pow_add, ← Nat.mul_assoc]
  cases s <;> simp [Int.neg_mul]
theorem signed_zero (s : Bool) (a : Nat) : signed s 0 a = 0 := by cases s <;> simp [signed]
theorem signed_neg (s : Bool) (m a : Nat) : signed (!s) m a = - signed s m a := by cases s <;> simp [signed]
theorem signed_abs (s : Bool) (m a : Nat) : (signed s m a).natAbs = m * 2 ^ a := by cases s <;> simp only [signed, Nat.shiftLeft_eq, Bool.false_eq_true, if_true, if_false, Int.natAbs_neg, Int.natAbs_natCast]
theorem signed_false (m a : Nat) : signed false m a = ((m * 2 ^ a : Nat) : Int) := by simp [signed, Nat.shiftLeft_eq]
theorem signed_true (m a : Nat) : signed true m a = -((m * 2 ^ a : Nat) : Int) := by simp [signed, Nat.shiftLeft_eq]

/-- The word b is the number v, in units of the least one. -/
def Val (b : Nat) (v : Int) : Prop := ∃ s m e, double.read b = .number s m e ∧ -1074 ≤ e ∧ v = signed s m (e + 1074).toNat
/-- The word b is the whole number n. -/
def Wh (b : Nat) (n : Int) : Prop := Val b (n * (U : Int))

theorem least_d : double.leastPlace = -1074 := by decide
theorem binade_d : double.binade = 4503599627370496 := by decide
theorem weight_d : double.signWeight = 9223372036854775808 := by decide
theorem inf_d : double.infRung = 9218868437227405312 := by decide

theorem read_place {b : Nat} {s : Bool} {m : Nat} {e : Int} (h : double.read b = .number s m e) : -1074 ≤ e := by
  unfold Format.read at h
  simp only [least_d, binade_d, weight_d, inf_d] at h
  split at h
  · injection h with _ _ h; omega
  · split at h
    · injection h with _ _ h; omega
    · split at h <;> cases h

/-- A word is a number, an infinity, or none. -/
theorem cases_word (b : Nat) : (∃ v, Val b v) ∨ (∃ s, double.read b = .infinity s) ∨ ∃ s t, double.read b = .nan s t := by
  cases h : double.read b with
  | number s m e => exact .inl ⟨_, s, m, e, h, read_place h, rfl⟩
  | infinity s => exact .inr (.inl ⟨s, rfl⟩)
  | nan s t => exact .inr (.inr ⟨s, t, rfl⟩)

theorem cmp_def (x y : Int) : compare x y = if x < y then .lt else if x = y then .eq else .gt := rfl
theorem cmp_mul (x y : Int) (k : Nat) (hk : 0 < k) : compare (x * k) (y * k) = compare x y := by
  have hk' : (0 : Int) < k := by omega
  rw [cmp_def, cmp_def]
  have h1 : x * k < y * k ↔ x < y := ⟨fun h => Int.lt_of_mul_lt_mul_right h (Int.le_of_lt hk'), fun h => Int.mul_lt_mul_of_pos_right h hk'⟩
  have h2 : x * k = y * k ↔ x = y := ⟨fun h => Int.eq_of_mul_eq_mul_right (by omega) h, fun h => by rw [h]⟩
  simp only [h1, h2]

theorem order_val {a b : Nat} {v u : Int} (ha : Val a v) (hb : Val b u) : double.order a b = some (compare v u) := by
  obtain ⟨s, m, i, ha, hi, rfl⟩ := ha
  obtain ⟨t, n, j, hb, hj, rfl⟩ := hb
  unfold Format.order
  rw [ha, hb]
  simp only [Datum.order]
  rw [show (i + 1074).toNat = (i - min i j).toNat + (min i j + 1074).toNat by omega, show (j + 1074).toNat = (j - min i j).toNat + (min i j + 1074).toNat by omega, signed_add, signed_add,
    cmp_mul _ _ _ (Nat.two_pow_pos _)]
theorem order_nan_l {a b : Nat} {s : Bool} {t : Nat} (h : double.read a = .nan s t) : double.order a b = none := by
  unfold Format.order; rw [h]; rfl
theorem order_nan_r {a b : Nat} {s : Bool} {t : Nat} (h : double.read b = .nan s t) : double.order a b = none := by
  unfold Format.order; rw [h]; cases double.read a <;> rfl
theorem order_inf_l {a b : Nat} {s : Bool} {v : Int} (h : double.read a = .infinity s) (hb : Val b v) : double.order a b = some (if s then .lt else .gt) := by
  obtain ⟨t, n, j, hb, hj, rfl⟩ := hb
  unfold Format.order; rw [h, hb]; rfl
theorem order_inf_r {a b : Nat} {s : Bool} {v : Int} (h : double.read b = .infinity s) (ha : Val a v) : double.order a b = some (if s then .gt else .lt) := by
  obtain ⟨t, n, j, ha, hj, rfl⟩ := ha
  unfold Format.order; rw [h, ha]; rfl

/-- A word of a sign and a rung, read. -/
theorem read_word (s : Bool) (r : Nat) (h : r < 9223372036854775808) : double.read (double.word s r) =
    if r < 4503599627370496 then .number s r (-1074) else if r < 9218868437227405312 then .number s (4503599627370496 + r % 4503599627370496) (-1074 + ((r / 4503599627370496 - 1 : Nat) : Int)) else if r = 9218868437227405312 then .infinity s else .nan s (r - 9218868437227405312) := by
  unfold Format.read Format.word
  simp only [least_d, binade_d, weight_d, inf_d]
  cases s
  · simp only [Bool.false_eq_true, if_false]
    rw [show r / 9223372036854775808 % 2 = 0 by omega, show r % 9223372036854775808 = r by omega]
    rfl
  · simp only [if_true]
    rw [show (9223372036854775808 + r) / 9223372036854775808 % 2 = 1 by omega, show (9223372036854775808 + r) % 9223372036854775808 = r by omega]
    rfl

theorem val_word0 (s : Bool) : Val (double.word s 0) 0 := by
  refine ⟨s, 0, -1074, ?_, by omega, by rw [signed_zero]⟩
  rw [read_word s 0 (by omega)]; rfl

/-- The rung of a whole number. -/
theorem val_rung (s : Bool) (n ln : Nat) (h1 : 2 ^ ln ≤ n) (h2 : n < 2 ^ (ln + 1)) (hl : ln ≤ 52) : Val (double.word s ((ln + 1022) * 4503599627370496 + n * 2 ^ (52 - ln))) (signed s n 0 * (U : Int)) := by
  have k1 : 4503599627370496 ≤ n * 2 ^ (52 - ln) := by
    have := Nat.mul_le_mul_right (2 ^ (52 - ln)) h1
    rw [← Nat.pow_add, show ln + (52 - ln) = 52 by omega] at this
    exact this
  have k2 : n * 2 ^ (52 - ln) < 9007199254740992 := by
    have := Nat.mul_lt_mul_of_pos_right h2 (Nat.two_pow_pos (52 - ln))
    rw [← Nat.pow_add, show ln + 1 + (52 - ln) = 53 by omega] at this
    exact this
  generalize hk : n * 2 ^ (52 - ln) = k at k1 k2
  refine ⟨s, k, (ln : Int) - 52, ?_, by omega, ?_⟩
  · rw [read_word _ _ (by omega), if_neg (by omega), if_pos (by omega)]
    congr 1 <;> omega
  · rw [show ((ln : Int) - 52 + 1074).toNat = ln + 1022 by omega, U_def, show E = (52 - ln) + (ln + 1022) by rw [E_def]; omega, ← hk, ← signed_add]
    cases s <;> simp only [signed_false, signed_true, Nat.pow_add, Nat.pow_zero, Nat.mul_one, Nat.mul_assoc, Nat.zero_add]

theorem log2_mul (n p : Nat) (h : n ≠ 0) : (n * 2 ^ p).log2 = n.log2 + p := by
  have h0 : n * 2 ^ p ≠ 0 := Nat.mul_ne_zero h (by have := Nat.two_pow_pos p; omega)
  rw [Nat.log2_eq_iff h0]
  have h1 := Nat.log2_self_le h
  have h2 : n < 2 ^ (n.log2 + 1) := Nat.lt_log2_self
  refine ⟨?_, ?_⟩
  · rw [Nat.pow_add]; exact Nat.mul_le_mul_right _ h1
  · rw [show n.log2 + p + 1 = (n.log2 + 1) + p by omega, Nat.pow_add]
    exact Nat.mul_lt_mul_of_pos_right h2 (Nat.two_pow_pos _)

theorem cut_none (s : Bool) (n : Nat) : Toward.even.cut s n 0 = n := by
  unfold Toward.cut
  simp [Nat.mod_one]
theorem cut_exact (s : Bool) (n d : Nat) (hn : n ≠ 0) : Toward.even.cut s (n * 2 ^ d) d = n := by
  unfold Toward.cut
  have hl := log2_mul n d hn
  have hm : min d ((n * 2 ^ d).log2 + 2) = d := by omega
  have hg := Nat.two_pow_pos d
  simp only [hm, Nat.shiftLeft_eq, Nat.one_mul, Nat.mul_mod_left, Nat.mul_zero, Nat.mul_div_cancel _ hg]
  have : ¬ (2 ^ d = 0) := by omega
  simp [this]

/-- The nearest word of a whole number below 2^53, however it is written, is that number. -/
theorem nearest_int (s : Bool) (M : Nat) (P : Int) (n : Nat) (h : (0 ≤ P ∧ M * 2 ^ P.toNat = n) ∨ (P < 0 ∧ M = n * 2 ^ (-P).toNat)) (hn : n < 9007199254740992) : Val (double.nearest s M P) (signed s n 0 * (U : Int)) := by
  by_cases h0 : n = 0
  · have hM : M = 0 := by
      rcases h with ⟨_, h⟩ | ⟨_, h⟩
      · rw [h0] at h
        rcases Nat.mul_eq_zero.1 h with h | h
        · exact h
        · have := Nat.two_pow_pos P.toNat; omega
      · rw [h, h0, Nat.zero_mul]
    subst h0
    rw [signed_zero]
    unfold Format.nearest
    rw [if_pos hM]
    simpa using val_word0 s
  · have hM : M ≠ 0 := by
      rintro rfl
      rcases h with ⟨_, h⟩ | ⟨_, h⟩
      · rw [Nat.zero_mul] at h; omega
      · rcases Nat.mul_eq_zero.1 h.symm with h | h
        · exact h0 h
        · have := Nat.two_pow_pos (-P).toNat; omega
    have hln : n.log2 ≤ 52 := by
      have := (Nat.log2_lt h0 (k := 53)).2 hn
      omega
    have hlog : P + (M.log2 : Int) = (n.log2 : Int) := by
      rcases h with ⟨hp, h⟩ | ⟨hp, h⟩
      · rw [← h, log2_mul _ _ hM]; omega
      · rw [h, log2_mul _ _ h0]; omega
    unfold Format.nearest
    rw [if_neg hM]
    have hlast : max (P + (M.log2 : Int) - (double.fractionBits : Int)) (-1074) = (n.log2 : Int) - 52 := by
      rw [hlog]; show max ((n.log2 : Int) - 52) (-1074) = _; omega
    simp only [least_d, binade_d, inf_d, hlast]
    have hkept : Toward.even.cut s (M <<< (P - ((n.log2 : Int) - 52)).toNat) ((n.log2 : Int) - 52 - P).toNat = n * 2 ^ (52 - n.log2) := by
      rw [Nat.shiftLeft_eq]
      rcases h with ⟨hp, h⟩ | ⟨hp, h⟩
      · rw [show ((n.log2 : Int) - 52 - P).toNat = 0 by omega, cut_none, show (P - ((n.log2 : Int) - 52)).toNat = P.toNat + (52 - n.log2) by omega, Nat.pow_add, ← Nat.mul_assoc, h]
      · by_cases hd : (-P).toNat ≤ 52 - n.log2
        · rw [show ((n.log2 : Int) - 52 - P).toNat = 0 by omega, cut_none, h, Nat.mul_assoc, ← Nat.pow_add]
          congr 2; omega
        · rw [show (P - ((n.log2 : Int) - 52)).toNat = 0 by omega, Nat.pow_zero, Nat.mul_one, h, show (-P).toNat = (52 - n.log2) + ((n.log2 : Int) - 52 - P).toNat by omega, Nat.pow_add, ← Nat.mul_assoc,
            cut_exact _ _ _ (Nat.mul_ne_zero h0 (by have := Nat.two_pow_pos (52 - n.log2); omega))]
    rw [hkept, show ((n.log2 : Int) - 52 - (-1074)).toNat = n.log2 + 1022 by omega]
    have h1 := Nat.log2_self_le h0
    have h2 : n < 2 ^ (n.log2 + 1) := Nat.lt_log2_self
    have k2 : n * 2 ^ (52 - n.log2) < 9007199254740992 := by
      have := Nat.mul_lt_mul_of_pos_right h2 (Nat.two_pow_pos (52 - n.log2))
      rw [← Nat.pow_add, show n.log2 + 1 + (52 - n.log2) = 53 by omega] at this
      exact this
    rw [Nat.min_eq_left (by omega)]
    exact val_rung s n n.log2 h1 h2 hln

/-- A word as great as 2^52 or greater, or infinite. -/
def Great (b : Nat) : Prop := (∃ v, Val b v ∧ 4503599627370496 * (U : Int) ≤ v) ∨ double.read b = .infinity false

theorem nearest_big (M : Nat) (P : Int) (h : 53 ≤ P + (M.log2 : Int)) (hM : M ≠ 0) : Great (double.nearest false M P) := by
  unfold Format.nearest
  rw [if_neg hM]
  have hlast : max (P + (M.log2 : Int) - (double.fractionBits : Int)) (-1074) = P + (M.log2 : Int) - 52 := by
    show max (P + (M.log2 : Int) - 52) (-1074) = _; omega
  simp only [least_d, binade_d, inf_d, hlast]
  obtain ⟨kept, hk⟩ : ∃ k, k = Toward.even.cut false (M <<< (P - (P + (M.log2 : Int) - 52)).toNat) (P + (M.log2 : Int) - 52 - P).toNat := ⟨_, rfl⟩
  rw [← hk]
  clear hk
  obtain ⟨r, hr⟩ : ∃ r, r = min ((P + (M.log2 : Int) - 52 - (-1074)).toNat * 4503599627370496 + kept) 9218868437227405312 := ⟨_, rfl⟩
  rw [← hr]
  have h1 : 1075 * 4503599627370496 ≤ r := by
    have : 1075 ≤ (P + (M.log2 : Int) - 52 - (-1074)).toNat := by omega
    have := Nat.mul_le_mul_right 4503599627370496 this
    omega
  have h2 : r ≤ 9218868437227405312 := by omega
  have hread := read_word false r (by omega)
  rw [if_neg (by omega)] at hread
  by_cases hlt : r < 9218868437227405312
  · rw [if_pos hlt] at hread
    refine .inl ⟨_, ⟨_, _, _, hread, by omega, rfl⟩, ?_⟩
    rw [show (-1074 + ((r / 4503599627370496 - 1 : Nat) : Int) + 1074).toNat = r / 4503599627370496 - 1 - 1074 + E by rw [E_def]; omega, signed_add, U_def, signed_false]
    refine Int.mul_le_mul_of_nonneg_right ?_ (Int.natCast_nonneg _)
    have := Nat.two_pow_pos (r / 4503599627370496 - 1 - 1074)
    have : 4503599627370496 * 1 ≤ (4503599627370496 + r % 4503599627370496) * 2 ^ (r / 4503599627370496 - 1 - 1074) := Nat.mul_le_mul (by omega) this
    omega
  · rw [if_neg hlt, if_pos (by omega)] at hread
    exact .inr hread

theorem great_order {b c : Nat} {n : Int} (h : Great b) (hc : Wh c n) (hn : n < 4503599627370496) : double.order b c = some .gt := by
  rcases h with ⟨v, hv, hge⟩ | h
  · rw [order_val hv hc, cmp_def]
    have hU : (0 : Int) < U := by have := U_pos; omega
    have : n * (U : Int) < 4503599627370496 * U := Int.mul_lt_mul_of_pos_right hn hU
    rw [if_neg (by omega), if_neg (by omega)]
  · rw [order_inf_l h hc]; rfl

/-- The whole parts of words, in order. -/
theorem wh_order {a b : Nat} {n m : Int} (ha : Wh a n) (hb : Wh b m) : double.order a b = some (compare n m) := by
  rw [order_val ha hb, cmp_mul _ _ _ U_pos]

/-- What is exactly so many units, in halves as it were: either it is written with a place at or above the ones, or below. -/
theorem split_units (m : Nat) (e : Int) (n : Nat) (he : -1074 ≤ e) (h : m * 2 ^ (e + 1074).toNat = n * U) : (0 ≤ e ∧ m * 2 ^ e.toNat = n) ∨ (e < 0 ∧ m = n * 2 ^ (-e).toNat) := by
  rw [U_def] at h
  by_cases hp : 0 ≤ e
  · left
    rw [show (e + 1074).toNat = e.toNat + E by rw [E_def]; omega, Nat.pow_add, ← Nat.mul_assoc] at h
    exact ⟨hp, Nat.eq_of_mul_eq_mul_right (Nat.two_pow_pos _) h⟩
  · right
    rw [show E = (-e).toNat + (e + 1074).toNat by rw [E_def]; omega, Nat.pow_add, ← Nat.mul_assoc] at h
    exact ⟨by omega, Nat.eq_of_mul_eq_mul_right (Nat.two_pow_pos _) h⟩

/-- A sum of two numbers that is a whole number, not too great. -/
theorem add_int {a b : Nat} {v u k : Int} (ha : Val a v) (hb : Val b u) (h : v + u = k * (U : Int)) (hk : k.natAbs < 9007199254740992) : ∃ r, double.add a b = some r ∧ Wh r k := by
  obtain ⟨s, m, i, ha, hi, rfl⟩ := ha
  obtain ⟨t, n, j, hb, hj, rfl⟩ := hb
  refine ⟨_, by unfold Format.add; rw [ha, hb]; rfl, ?_⟩
  show Wh (double.nearest _ _ _) k
  generalize ht : signed s m (i - min i j).toNat + signed t n (j - min i j).toNat = total
  have hu : total * ((2 ^ (min i j + 1074).toNat : Nat) : Int) = k * (U : Int) := by
    rw [← ht, Int.add_mul, ← signed_add, ← signed_add, ← h]
    congr 2 <;> omega
  have hn : total.natAbs * 2 ^ (min i j + 1074).toNat = k.natAbs * U := by
    have := congrArg Int.natAbs hu
    rwa [Int.natAbs_mul, Int.natAbs_mul, Int.natAbs_natCast, Int.natAbs_natCast] at this
  have hv := nearest_int (if total = 0 then s && t else total < 0) total.natAbs (min i j) k.natAbs (split_units _ _ _ (by omega) hn) hk
  have hU := U_pos
  have hp := Nat.two_pow_pos (min i j + 1074).toNat
  have hs : signed (if total = 0 then s && t else total < 0) k.natAbs 0 = k := by
    by_cases h0 : total = 0
    · rw [h0, Int.zero_mul] at hu
      have : k = 0 := by
        rcases Int.mul_eq_zero.1 hu.symm with h | h
        · exact h
        · omega
      rw [this]; exact signed_zero _ _
    · rw [if_neg h0]
      have hUz : (0 : Int) < U := by omega
      have hpz : (0 : Int) < ((2 ^ (min i j + 1074).toNat : Nat) : Int) := by omega
      by_cases hneg : total < 0
      · have h1 : total * ((2 ^ (min i j + 1074).toNat : Nat) : Int) < 0 := Int.mul_neg_of_neg_of_pos hneg hpz
        have : k < 0 := by
          rcases ilt k 0 with h | h
          · exact h
          · have := Int.mul_nonneg h (Int.le_of_lt hUz); omega
        simp only [hneg, decide_true, signed_true, Nat.pow_zero, Nat.mul_one]; omega
      · have h1 : 0 < total * ((2 ^ (min i j + 1074).toNat : Nat) : Int) := Int.mul_pos (by omega) hpz
        have : 0 < k := by
          rcases ilt 0 k with h | h
          · exact h
          · have := Int.mul_le_mul_of_nonneg_right h (Int.le_of_lt hUz); rw [Int.zero_mul] at this; omega
        simp only [hneg, decide_false, signed_false, Nat.pow_zero, Nat.mul_one]; omega
  rw [hs] at hv
  exact hv

/-- A sum of two numbers, neither below nought, that is great. -/
theorem add_great {a b : Nat} {v u : Int} (ha : Val a v) (hb : Val b u) (hv0 : 0 ≤ v) (hu0 : 0 ≤ u) (h : 9007199254740992 * (U : Int) ≤ v + u) : ∃ r, double.add a b = some r ∧ Great r := by
  obtain ⟨s, m, i, ha, hi, rfl⟩ := ha
  obtain ⟨t, n, j, hb, hj, rfl⟩ := hb
  refine ⟨_, by unfold Format.add; rw [ha, hb]; rfl, ?_⟩
  show Great (double.nearest _ _ _)
  generalize ht : signed s m (i - min i j).toNat + signed t n (j - min i j).toNat = total
  have hu : total * ((2 ^ (min i j + 1074).toNat : Nat) : Int) = signed s m (i + 1074).toNat + signed t n (j + 1074).toNat := by
    rw [← ht, Int.add_mul, ← signed_add, ← signed_add]
    congr 2 <;> omega
  rw [← hu] at h
  have hU := U_pos
  have hp := Nat.two_pow_pos (min i j + 1074).toNat
  have hpz : (0 : Int) < ((2 ^ (min i j + 1074).toNat : Nat) : Int) := by omega
  have hpos : 0 < total := by
    rcases ilt 0 total with h1 | h1
    · exact h1
    · have := Int.mul_le_mul_of_nonneg_right h1 (Int.le_of_lt hpz); rw [Int.zero_mul] at this; omega
  rw [if_neg (by omega), show decide (total < 0) = false by simp; omega]
  have hT : total.natAbs ≠ 0 := by omega
  refine nearest_big _ _ ?_ hT
  have hN : 9007199254740992 * U ≤ total.natAbs * 2 ^ (min i j + 1074).toNat := by
    have : (total.natAbs : Int) = total := by omega
    have h2 : ((9007199254740992 * U : Nat) : Int) ≤ ((total.natAbs * 2 ^ (min i j + 1074).toNat : Nat) : Int) := by
      rw [Int.natCast_mul, Int.natCast_mul, this]; exact h
    exact Int.ofNat_le.1 h2
  have hl : total.natAbs < 2 ^ (total.natAbs.log2 + 1) := Nat.lt_log2_self
  have h3 : 9007199254740992 * U < 2 ^ (total.natAbs.log2 + 1) * 2 ^ (min i j + 1074).toNat := Nat.lt_of_le_of_lt hN (Nat.mul_lt_mul_of_pos_right hl hp)
  rw [U_def, show (9007199254740992 : Nat) = 2 ^ 53 by rfl, ← Nat.pow_add, ← Nat.pow_add] at h3
  have h4 := (Nat.pow_lt_pow_iff_right (by omega)).1 h3
  rw [E_def] at h4
  omega

end Go.Proofs.Ytjljojnedaclgaa
