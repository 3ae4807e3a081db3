/- Bits side by side that are put together with others: plain lists. -/
import Derived.Test.YthjfjlkkbdjgfaaFrmMath
set_option linter.unusedVariables false
set_option linter.unusedSimpArgs false
namespace Go.Proofs.Ythjfjlkkbdjgfaa

/-- The first k of by's bits, from the bit m on. -/
def gb (m : Nat) (s : BitVec 32) (k i : Nat) : Bool := decide (m ≤ i ∧ i < m + k) && s.getLsbD (i - m)
theorem gb_zero (m : Nat) (s : BitVec 32) (i : Nat) : gb m s 0 i = false := by
  unfold gb
  rw [decide_eq_false (by omega)]
  rfl
theorem gb_no (m : Nat) (s : BitVec 32) (k i : Nat) (h : s.getLsbD k = false) : gb m s (k + 1) i = gb m s k i := by
  unfold gb
  by_cases hi : i = m + k
  · subst hi
    rw [show m + k - m = k by omega, h, Bool.and_false, Bool.and_false]
  · rw [decide_eq_decide.2 (show m ≤ i ∧ i < m + (k + 1) ↔ m ≤ i ∧ i < m + k by omega)]
theorem gb_yes (m : Nat) (s : BitVec 32) (k i : Nat) (h : s.getLsbD k = true) : gb m s (k + 1) i = (gb m s k i ^^ decide (i = m + k)) := by
  unfold gb
  by_cases hi : i = m + k
  · subst hi
    rw [show m + k - m = k by omega, h, decide_eq_true (show m ≤ m + k ∧ m + k < m + (k + 1) by omega), decide_eq_false (show ¬ (m ≤ m + k ∧ m + k < m + k) by omega), decide_eq_true rfl]
    rfl
  · rw [decide_eq_decide.2 (show m ≤ i ∧ i < m + (k + 1) ↔ m ≤ i ∧ i < m + k by omega), decide_eq_false hi, Bool.xor_false]
theorem gb_all (m : Nat) (s : BitVec 32) : (∀ i, gb m s 32 i = false) ↔ s = 0#32 := by
  constructor
  · intro h
    apply BitVec.eq_of_getLsbD_eq
    intro i hi
    have := h (m + i)
    unfold gb at this
    rw [decide_eq_true (show m ≤ m + i ∧ m + i < m + 32 by omega), Bool.true_and, show m + i - m = i by omega] at this
    rw [this]
    simp
  · rintro rfl i
    unfold gb
    simp
/-- What a row becomes, bit by bit. -/
structure Burst (B C : List UInt8) (m : Nat) (s : BitVec 32) (k : Nat) : Prop where
  len : C.length = B.length
  bits : ∀ i, bit C i = (bit B i ^^ gb m s k i)
theorem Burst.start (B : List UInt8) (m : Nat) (s : BitVec 32) : Burst B B m s 0 := ⟨rfl, fun i => by rw [gb_zero, Bool.xor_false]⟩
theorem Burst.no {B C : List UInt8} {m : Nat} {s : BitVec 32} {k : Nat} (h : Burst B C m s k) (hb : s.getLsbD k = false) : Burst B C m s (k + 1) := ⟨h.len, fun i => by rw [gb_no m s k i hb, h.bits]⟩
theorem Burst.yes {B C : List UInt8} {m : Nat} {s : BitVec 32} {k : Nat} (h : Burst B C m s k) (hb : s.getLsbD k = true) (hl : (m + k) / 8 < C.length) :
    Burst B (C.set ((m + k) / 8) (C[(m + k) / 8] ^^^ UInt8.ofNat (128 / 2 ^ ((m + k) % 8)))) m s (k + 1) :=
  ⟨by rw [List.length_set, h.len], fun i => by rw [bit_flip C (m + k) hl i, gb_yes m s k i hb, h.bits, Bool.xor_assoc]⟩
theorem Burst.fr {B C : List UInt8} {m : Nat} {s : BitVec 32} (h : Burst B C m s 32) (hB : isFr B) (hm : m + 32 ≤ 8 * B.length) : isFr C ↔ s = 0#32 := by
  rw [isFr_burst hB (gb m s 32) m 32 h.len (Nat.le_refl _) hm (fun i hi => by unfold gb; rw [decide_eq_false (by omega)]; rfl) (fun i _ => h.bits i), gb_all]
end Go.Proofs.Ythjfjlkkbdjgfaa
