/- By order of bytes the lesser number's bytes are the first. -/
import Derived.Test.YthdlehbelbapeaaMath
import GoSem.Op.String
namespace Go.Proofs.Ythdlehbelbapeaa

theorem val_cons (d : UInt8) : ∀ l : List UInt8, val (d :: l) = d.toNat * 256 ^ l.length + val l := by
  refine snoc_ind (by simp [val]) fun l x ih => ?_
  rw [← List.cons_append, val_snoc, ih, val_snoc, List.length_append, List.length_singleton, Nat.pow_succ, Nat.add_mul, ← Nat.mul_assoc]
  omega
theorem less_val : ∀ (a b : List UInt8), a.length = b.length → Op.bytesLess a b = decide (val a < val b)
  | [], [], _ => by simp [Op.bytesLess]
  | [], _ :: _, h => by simp at h
  | _ :: _, [], h => by simp at h
  | x :: a, y :: b, h => by
    have hl : a.length = b.length := by simpa using h
    have ha := val_lt a
    have hb := val_lt b
    rw [Op.bytesLess, less_val a b hl, val_cons, val_cons, hl]
    rw [hl] at ha
    rw [Bool.eq_iff_iff]
    simp only [Bool.or_eq_true, Bool.and_eq_true, decide_eq_true_eq, beq_iff_eq, UInt8.lt_iff_toNat_lt, UInt8.toNat_inj.symm]
    generalize 256 ^ b.length = P at *
    constructor
    · rintro (h1 | ⟨h1, h2⟩)
      · have := Nat.mul_le_mul_right P (show x.toNat + 1 ≤ y.toNat from h1)
        rw [Nat.add_mul] at this
        omega
      · rw [h1]; omega
    · intro h1
      rcases Nat.lt_trichotomy x.toNat y.toNat with h2 | h2 | h2
      · exact .inl h2
      · right; refine ⟨h2, ?_⟩; rw [h2] at h1; omega
      · exfalso
        have := Nat.mul_le_mul_right P (show y.toNat + 1 ≤ x.toNat from h2)
        rw [Nat.add_mul] at this
        omega
theorem less_num (n m : Nat) (hn : n ≤ 1099511627776) (hm : m ≤ 1099511627776) : Op.bytesLess (num n) (num m) = decide (n < m) := by
  have hn6 := dig_len6 n hn
  have hm6 := dig_len6 m hm
  have e1 : (UInt8.ofNat (dig n).length).toNat = (dig n).length := by simp; omega
  have e2 : (UInt8.ofNat (dig m).length).toNat = (dig m).length := by simp; omega
  rw [num, num, Op.bytesLess, Bool.eq_iff_iff]
  simp only [Bool.or_eq_true, Bool.and_eq_true, decide_eq_true_eq, beq_iff_eq, UInt8.lt_iff_toNat_lt, UInt8.toNat_inj.symm, e1, e2]
  constructor
  · rintro (h | ⟨h, h2⟩)
    · have h1 := (dig_len_lt (dig n).length n).1 (Nat.le_refl _)
      have h3 : ¬ m < 256 ^ (dig n).length := fun h' => by have := (dig_len_lt _ _).2 h'; omega
      omega
    · rw [less_val _ _ h, val_dig, val_dig] at h2
      simpa using h2
  · intro h
    have h1 := (dig_len_lt (dig m).length m).1 (Nat.le_refl _)
    have h2 : (dig n).length ≤ (dig m).length := (dig_len_lt _ _).2 (by omega)
    rcases Nat.lt_or_ge (dig n).length (dig m).length with h3 | h3
    · exact .inl h3
    · have h4 : (dig n).length = (dig m).length := by omega
      right
      refine ⟨h4, ?_⟩
      rw [less_val _ _ h4, val_dig, val_dig]
      simpa using h
end Go.Proofs.Ythdlehbelbapeaa
