/- Plain mathematics of floats, second part: products, signs, what is cut to a whole number, and conversions. No program is named. -/
import Derived.Test.YtjljojnedaclgaaFlo
import GoSem.Op.Unary
set_option linter.unusedVariables false
set_option linter.unusedSimpArgs false
namespace Go.Proofs.Ytjljojnedaclgaa
open Ieee

theorem wh_word0 (s : Bool) : Wh (double.word s 0) 0 := by unfold Wh; rw [Int.zero_mul]; exact val_word0 s
theorem wh_0 : Wh 0 0 := wh_word0 false

/-- What is exactly so many units, and its data. -/
theorem wh_data {b : Nat} {n : Int} (h : Wh b n) : ∃ s m e, double.read b = .number s m e ∧ -1074 ≤ e ∧ ((0 ≤ e ∧ m * 2 ^ e.toNat = n.natAbs) ∨ (e < 0 ∧ m = n.natAbs * 2 ^ (-e).toNat)) ∧ signed s n.natAbs 0 = n := by
  obtain ⟨s, m, e, h, he, hv⟩ := h
  have hn : m * 2 ^ (e + 1074).toNat = n.natAbs * U := by
    have := congrArg Int.natAbs hv
    rw [Int.natAbs_mul, Int.natAbs_natCast, signed_abs] at this
    exact this.symm
  refine ⟨s, m, e, h, he, split_units _ _ _ he hn, ?_⟩
  have hU := U_pos
  have hUz : (0 : Int) < U := by omega
  cases s
  · rw [signed_false] at hv ⊢
    have : 0 ≤ n := by
      rcases ilt n 0 with h | h
      · have := Int.mul_neg_of_neg_of_pos h hUz; have := Int.natCast_nonneg (m * 2 ^ (e + 1074).toNat); omega
      · exact h
    rw [Nat.pow_zero, Nat.mul_one]; omega
  · rw [signed_true] at hv ⊢
    have : n ≤ 0 := by
      rcases ilt 0 n with h | h
      · have := Int.mul_pos h hUz; have := Int.natCast_nonneg (m * 2 ^ (e + 1074).toNat); omega
      · exact h
    rw [Nat.pow_zero, Nat.mul_one]; omega

theorem signed_mul (s t : Bool) (a b : Nat) : signed (s ^^ t) (a * b) 0 = signed s a 0 * signed t b 0 := by
  cases s <;> cases t <;> simp [signed, Int.neg_mul, Int.mul_neg]

theorem pow_split (a b : Nat) (h : b ≤ a) : 2 ^ a = 2 ^ (a - b) * 2 ^ b := by rw [← Nat.pow_add]; congr 1; omega

/-- A product of whole numbers. -/
theorem mul_int {a b : Nat} {n m : Int} (ha : Wh a n) (hb : Wh b m) (hk : (n * m).natAbs < 9007199254740992) : ∃ r, double.mul a b = some r ∧ Wh r (n * m) := by
  obtain ⟨s, p, i, ha, hi, h1, hs⟩ := wh_data ha
  obtain ⟨t, q, j, hb, hj, h2, ht⟩ := wh_data hb
  refine ⟨_, by unfold Format.mul; rw [ha, hb]; rfl, ?_⟩
  show Wh (double.nearest _ _ _) _
  have hsg : signed (s ^^ t) (n * m).natAbs 0 = n * m := by rw [Int.natAbs_mul, signed_mul, hs, ht]
  rw [Int.natAbs_mul] at hk hsg
  unfold Wh
  rw [← hsg]
  refine nearest_int _ _ _ _ ?_ hk
  rcases h1 with ⟨g1, h1⟩ | ⟨g1, h1⟩ <;> rcases h2 with ⟨g2, h2⟩ | ⟨g2, h2⟩
  · refine .inl ⟨by omega, ?_⟩
    rw [← h1, ← h2, show (i + j).toNat = i.toNat + j.toNat by omega, Nat.pow_add]
    simp only [Nat.mul_assoc, Nat.mul_left_comm, Nat.mul_comm]
  · rw [← h1, h2]
    by_cases hc : 0 ≤ i + j
    · refine .inl ⟨hc, ?_⟩
      rw [pow_split i.toNat (-j).toNat (by omega), show i.toNat - (-j).toNat = (i + j).toNat by omega]
      simp only [Nat.mul_assoc, Nat.mul_left_comm, Nat.mul_comm]
    · refine .inr ⟨by omega, ?_⟩
      rw [pow_split (-j).toNat i.toNat (by omega), show (-j).toNat - i.toNat = (-(i + j)).toNat by omega]
      simp only [Nat.mul_assoc, Nat.mul_left_comm, Nat.mul_comm]
  · rw [h1, ← h2]
    by_cases hc : 0 ≤ i + j
    · refine .inl ⟨hc, ?_⟩
      rw [pow_split j.toNat (-i).toNat (by omega), show j.toNat - (-i).toNat = (i + j).toNat by omega]
      simp only [Nat.mul_assoc, Nat.mul_left_comm, Nat.mul_comm]
    · refine .inr ⟨by omega, ?_⟩
      rw [pow_split (-i).toNat j.toNat (by omega), show (-i).toNat - j.toNat = (-(i + j)).toNat by omega]
      simp only [Nat.mul_assoc, Nat.mul_left_comm, Nat.mul_comm]
  · refine .inr ⟨by omega, ?_⟩
    rw [h1, h2, show (-(i + j)).toNat = (-i).toNat + (-j).toNat by omega, Nat.pow_add]
    simp only [Nat.mul_assoc, Nat.mul_left_comm, Nat.mul_comm]

theorem val_nonneg {b : Nat} {m : Nat} {e : Int} (h : double.read b = .number false m e) : Val b (signed false m (e + 1074).toNat) := ⟨_, _, _, h, read_place h, rfl⟩

/-- The sign turned. -/
theorem neg_parts (b : Nat) : (b ^^^ 2 ^ 63) % 9223372036854775808 = b % 9223372036854775808 ∧ ((b ^^^ 2 ^ 63) / 9223372036854775808 % 2 == 1) = !(b / 9223372036854775808 % 2 == 1) := by
  refine ⟨?_, ?_⟩
  · have := @Nat.xor_mod_two_pow b (2 ^ 63) 63
    rw [show (2 : Nat) ^ 63 % 2 ^ 63 = 0 by decide, Nat.xor_zero] at this
    exact this
  · have h1 := @Nat.testBit_eq_decide_div_mod_eq 63 (b ^^^ 2 ^ 63)
    have h2 := @Nat.testBit_eq_decide_div_mod_eq 63 b
    rw [Nat.testBit_xor, h2, show (2 ^ 63 : Nat).testBit 63 = true by decide] at h1
    simp only [show (2 : Nat) ^ 63 = 9223372036854775808 by decide] at h1 h2 ⊢
    simp only [Bool.beq_eq_decide_eq]
    rw [← h1]; cases decide (b / 9223372036854775808 % 2 = 1) <;> rfl
theorem read_neg (b : Nat) : double.read (b ^^^ 2 ^ 63) = (double.read b).opposite := by
  obtain ⟨h1, h2⟩ := neg_parts b
  unfold Format.read
  simp only [least_d, binade_d, weight_d, inf_d, h1, h2]
  split
  · rfl
  · split
    · rfl
    · split <;> rfl
theorem negFloat_eq (b : Nat) : Op.negFloat .f64 b = b ^^^ 2 ^ 63 := rfl
theorem val_neg {b : Nat} {v : Int} (h : Val b v) : Val (Op.negFloat .f64 b) (-v) := by
  obtain ⟨s, m, e, h, he, rfl⟩ := h
  exact ⟨!s, m, e, by rw [negFloat_eq, read_neg, h]; rfl, he, (signed_neg s m _).symm⟩
theorem wh_neg {b : Nat} {n : Int} (h : Wh b n) : Wh (Op.negFloat .f64 b) (-n) := by
  have := val_neg h
  rwa [← Int.neg_mul] at this

/-- Without its sign. -/
theorem read_abs (b : Nat) : double.read (b % 9223372036854775808) = match double.read b with
    | .number _ m e => .number false m e
    | .infinity _ => .infinity false
    | .nan _ t => .nan false t := by
  unfold Format.read
  simp only [least_d, binade_d, weight_d, inf_d, Nat.mod_mod]
  rw [show b % 9223372036854775808 / 9223372036854775808 % 2 = 0 by omega]
  split
  · rfl
  · split
    · rfl
    · split <;> rfl
theorem val_abs {b : Nat} {v : Int} (h : Val b v) : Val (b % 9223372036854775808) (v.natAbs : Int) := by
  obtain ⟨s, m, e, h, he, rfl⟩ := h
  refine ⟨false, m, e, by rw [read_abs, h], he, ?_⟩
  rw [signed_abs, signed_false]

/-- A float is a whole number if and only if, cut to one, it is as it was; here: of numbers below 2^53. -/
theorem cut_zero (s : Bool) (m : Nat) (i : Int) (hi : -1074 ≤ i) : Toward.zero.cut s (m <<< i.toNat) (-i).toNat = m * 2 ^ (i + 1074).toNat / U := by
  have hU := U_pos
  unfold Toward.cut
  simp only [Nat.shiftLeft_eq, Bool.toNat_false, Nat.add_zero, Nat.one_mul]
  by_cases hp : 0 ≤ i
  · rw [show (-i).toNat = 0 by omega, Nat.zero_min, Nat.pow_zero, Nat.div_one, show (i + 1074).toNat = i.toNat + E by rw [E_def]; omega, Nat.pow_add, ← Nat.mul_assoc, U_def, Nat.mul_div_cancel _ (Nat.two_pow_pos _)]
  · rw [show i.toNat = 0 by omega, Nat.pow_zero, Nat.mul_one]
    have hq : m * 2 ^ (i + 1074).toNat / U = m / 2 ^ (-i).toNat := by
      rw [U_def, show E = (-i).toNat + (i + 1074).toNat by rw [E_def]; omega, Nat.pow_add, Nat.mul_div_mul_right _ _ (Nat.two_pow_pos _)]
    rw [hq]
    by_cases hm : (-i).toNat ≤ m.log2 + 2
    · rw [Nat.min_eq_left hm]
    · rw [Nat.min_eq_right (by omega)]
      have h1 : m < 2 ^ (m.log2 + 1) := Nat.lt_log2_self
      have h2 : 2 ^ (m.log2 + 1) ≤ 2 ^ (m.log2 + 2) := Nat.pow_le_pow_right (by omega) (by omega)
      have h3 : 2 ^ (m.log2 + 1) ≤ 2 ^ (-i).toNat := Nat.pow_le_pow_right (by omega) (by omega)
      rw [Nat.div_eq_of_lt (by omega), Nat.div_eq_of_lt (by omega)]

/-- So many units, cut to a whole number. -/
def cutI (v : Int) : Int := if v < 0 then -((v.natAbs / U : Nat) : Int) else ((v.natAbs / U : Nat) : Int)
theorem cutI_signed (s : Bool) (x : Nat) : signed s (x / U) 0 = cutI (if s then -(x : Int) else x) := by
  unfold cutI
  cases s
  · rw [signed_false, if_neg (by simp), Nat.pow_zero, Nat.mul_one]; simp
  · rw [signed_true, Nat.pow_zero, Nat.mul_one]
    simp only [if_true, Int.natAbs_neg, Int.natAbs_natCast]
    by_cases h : x = 0
    · subst h; simp
    · rw [if_pos (by omega)]
theorem cutI_abs (v : Int) : (cutI v).natAbs = v.natAbs / U := by unfold cutI; split <;> simp only [Int.natAbs_neg, Int.natAbs_natCast]
theorem cutI_whole (n : Int) : cutI (n * (U : Int)) = n := by
  have hU := U_pos
  have hUz : (0 : Int) < U := by omega
  unfold cutI
  rw [Int.natAbs_mul, Int.natAbs_natCast, Nat.mul_div_cancel _ hU]
  by_cases h : n < 0
  · rw [if_pos (Int.mul_neg_of_neg_of_pos h hUz)]; omega
  · rw [if_neg (by have := Int.mul_nonneg (show 0 ≤ n by omega) (Int.le_of_lt hUz); omega)]; omega
theorem signed_units (s : Bool) (m a : Nat) : signed s m a = if s then -((m * 2 ^ a : Nat) : Int) else ((m * 2 ^ a : Nat) : Int) := by cases s <;> simp [signed, Nat.shiftLeft_eq]

/-- 'int(x)', where it is in range. -/
theorem toInt_val {b : Nat} {v : Int} (h : Val b v) : (double.read b).toInt .zero = some (cutI v) := by
  obtain ⟨s, m, e, h, he, rfl⟩ := h
  rw [h]
  show some (signed s (Toward.zero.cut s (m <<< e.toNat) (-e).toNat) 0) = _
  rw [cut_zero s m e he, cutI_signed, signed_units]

/-- A whole number's nearest word. -/
theorem floatOf (n : Int) (h : n.natAbs < 9007199254740992) : Wh (double.nearest (n < 0) n.natAbs 0) n := by
  have := nearest_int (decide (n < 0)) n.natAbs 0 n.natAbs (.inl ⟨Int.le_refl _, by simp⟩) h
  have e : signed (decide (n < 0)) n.natAbs 0 = n := by
    by_cases hn : n < 0
    · rw [decide_eq_true hn, signed_true, Nat.pow_zero, Nat.mul_one]; omega
    · rw [decide_eq_false hn, signed_false, Nat.pow_zero, Nat.mul_one]; omega
  rw [e] at this
  exact this

/-- 'math.Trunc' of a number below 2^53. -/
theorem trunc_val {b : Nat} {v : Int} (h : Val b v) (hv : (cutI v).natAbs < 9007199254740992) : Wh (double.write ((double.read b).integral .zero)) (cutI v) := by
  obtain ⟨s, m, e, h, he, rfl⟩ := h
  rw [h]
  show Wh (double.nearest s (Toward.zero.cut s (m <<< e.toNat) (-e).toNat) 0) _
  rw [cut_zero s m e he]
  rw [cutI_abs, signed_abs] at hv
  have := nearest_int s (m * 2 ^ (e + 1074).toNat / U) 0 (m * 2 ^ (e + 1074).toNat / U) (.inl ⟨Int.le_refl _, by simp⟩) hv
  rw [cutI_signed, ← signed_units] at this
  exact this

end Go.Proofs.Ytjljojnedaclgaa
