/- The plain mathematics of sums: states of 32 bits, that go on bit by bit. No program is named here. The plain mathematics of frames: which rows of bytes are frames, and what becomes of one when bits are others. No program is named here. Contracts of frame's functions of states and sizes, and of the document's own: for any state, any number. Bits side by side that are put together with others: plain lists. -/
import Derived.Test.YtaacjpcckinaiaaGreatChecked
import Derived.Test.YtaacjpcckinaiaaGreatMem
import Derived.WalkKit
import Derived.WalkLawsBesides
import Derived.Laws.NewFold
import Derived.Laws.BitsAllLaws
import Derived.BigQuiet
import Derived.Deep.QuietTactic
import Derived.Lib.Small
import Derived.Lib.Walk
import Derived.Lib.Hide
import Derived.Handy
set_option linter.unusedVariables false
set_option maxRecDepth 100000
set_option linter.unusedSimpArgs false
namespace Go.Proofs.YtaacjpcckinaiaaGreat.Frm

def poly : BitVec 32 := 0x741b8cd7#32
/-- The state behind a bit. -/
def stp (s : BitVec 32) (b : Bool) : BitVec 32 := (s <<< 1) ^^^ (if b then 1#32 else 0#32) ^^^ (if s.msb then poly else 0#32)
theorem stp_xor (s t : BitVec 32) (b c : Bool) : stp (s ^^^ t) (b ^^ c) = stp s b ^^^ stp t c := by
  unfold stp
  rw [BitVec.shiftLeft_xor_distrib, BitVec.msb_xor]
  have h (A B x x' y y' : BitVec 32) : A ^^^ x ^^^ y ^^^ (B ^^^ x' ^^^ y') = (A ^^^ B) ^^^ (x ^^^ x') ^^^ (y ^^^ y') := by ac_rfl
  rw [h]
  congr 1
  · congr 1
    cases b <;> cases c <;> rfl
  · cases s.msb <;> cases t.msb <;> simp
theorem stp_zero : stp 0 false = 0 := by decide
theorem stp_inj0 {s : BitVec 32} (h : stp s false = 0) : s = 0 := by
  unfold stp at h
  cases hm : s.msb
  · rw [hm] at h
    simp at h
    apply BitVec.eq_of_getLsbD_eq
    intro i hi
    by_cases h31 : i = 31
    · subst h31
      rw [BitVec.msb_eq_getLsbD_last] at hm
      simpa using hm
    · have := congrArg (fun x => x.getLsbD (i + 1)) h
      simp at this
      have := this (by omega)
      simpa using this
  · rw [hm] at h
    have := congrArg (fun x => x.getLsbD 0) h
    simp [poly] at this
theorem stp_inj {s t : BitVec 32} {b : Bool} : stp s b = stp t b ↔ s = t := by
  refine ⟨fun h => ?_, fun h => by rw [h]⟩
  have h1 := stp_xor s t b b
  rw [h, Bool.xor_self, BitVec.xor_self] at h1
  have h2 := stp_inj0 h1
  have h3 : s = s ^^^ t ^^^ t := by rw [BitVec.xor_assoc, BitVec.xor_self, BitVec.xor_zero]
  rw [h3, h2]
  exact BitVec.zero_xor
theorem stp_one (s : BitVec 32) : stp s true = stp s false ^^^ 1#32 := by
  unfold stp
  simp
  ac_rfl

/-- The state behind the first n bits of f. -/
def run (s : BitVec 32) (f : Nat → Bool) : Nat → BitVec 32
  | 0 => s
  | n + 1 => stp (run s f n) (f n)
theorem run_xor (s t : BitVec 32) (f g : Nat → Bool) (n : Nat) : run (s ^^^ t) (fun i => f i ^^ g i) n = run s f n ^^^ run t g n := by
  induction n with
  | zero => rfl
  | succ n ih => simp only [run]; rw [ih, stp_xor]
theorem run_add (s : BitVec 32) (f : Nat → Bool) (m n : Nat) : run s f (m + n) = run (run s f m) (fun i => f (m + i)) n := by
  induction n with
  | zero => rfl
  | succ n ih => rw [← Nat.add_assoc]; simp only [run]; rw [ih]
theorem run_cong {s : BitVec 32} {f g : Nat → Bool} {n : Nat} (h : ∀ i, i < n → f i = g i) : run s f n = run s g n := by
  induction n with
  | zero => rfl
  | succ n ih => simp only [run]; rw [ih fun i hi => h i (by omega), h n (by omega)]
theorem run_zero {f : Nat → Bool} {n : Nat} (h : ∀ i, i < n → f i = false) : run 0 f n = 0 := by
  induction n with
  | zero => rfl
  | succ n ih => simp only [run]; rw [ih fun i hi => h i (by omega), h n (by omega), stp_zero]
theorem run_tail {s : BitVec 32} {f : Nat → Bool} {n : Nat} (h : ∀ i, i < n → f i = false) (h0 : run s f n = 0) : s = 0 := by
  induction n with
  | zero => exact h0
  | succ n ih =>
    simp only [run] at h0
    rw [h n (by omega)] at h0
    exact ih (fun i hi => h i (by omega)) (stp_inj0 h0)
/-- Up to 32 bits are just shifted in. -/
theorem run_word (f : Nat → Bool) (k : Nat) (hk : k ≤ 32) : ∀ j, (run 0 f k).getLsbD j = (decide (j < k) && f (k - 1 - j)) := by
  induction k with
  | zero => intro j; simp [run]
  | succ k ih =>
    intro j
    have ih := ih (by omega)
    have hm : (run 0 f k).msb = false := by
      rw [BitVec.msb_eq_getLsbD_last, ih]
      simp
      omega
    simp only [run]
    unfold stp
    rw [hm]
    simp only [BitVec.getLsbD_xor, BitVec.getLsbD_shiftLeft, ih]
    rcases Nat.eq_zero_or_pos j with rfl | hj
    · cases hf : f k <;> simp [hf]
    · by_cases hj2 : j < 32
      · have e1 : (if f k = true then 1#32 else 0#32).getLsbD j = false := by
          cases f k
          · simp
          · simp; omega
        rw [e1]
        simp [hj2, show ¬ j < 1 by omega, show k - 1 - (j - 1) = k - j by omega]
        by_cases h : j < k + 1
        · simp [h, show j - 1 < k by omega]
        · simp [h, show ¬ j - 1 < k by omega]
      · have e1 : (if f k = true then 1#32 else 0#32).getLsbD j = false := by
          cases f k
          · simp
          · simp; omega
        rw [e1]
        simp [hj2]
        intro h
        omega
/-- Up to 32 bits side by side, not all 0, leave a state that is not 0. -/
theorem run_burst (g : Nat → Bool) (m w n : Nat) (hw : w ≤ 32) (hn : m + w ≤ n) (h0 : ∀ i, i < m ∨ m + w ≤ i → g i = false) (h : run 0 g n = 0) : ∀ i, g i = false := by
  have e : n = m + (w + (n - m - w)) := by omega
  rw [e, run_add, run_zero (fun i hi => h0 i (.inl hi)), run_add] at h
  have h1 := run_tail (fun i hi => h0 (m + (w + i)) (.inr (by omega))) h
  intro i
  by_cases hi : m ≤ i ∧ i < m + w
  · have h2 := run_word (fun i => g (m + i)) w hw (m + w - 1 - i)
    rw [h1] at h2
    simp at h2
    have := h2 (by omega)
    rwa [show m + (w - 1 - (m + w - 1 - i)) = i by omega] at this
  · exact h0 i (by omega)

/-- The i-th bit of a row of bytes, the highest of each first; 0 behind them. -/
def bit (l : List UInt8) (i : Nat) : Bool := match l[i / 8]? with
  | some x => x.toBitVec.getLsbD (7 - i % 8)
  | none => false
theorem bit_out (l : List UInt8) (i : Nat) (h : 8 * l.length ≤ i) : bit l i = false := by
  unfold bit
  rw [List.getElem?_eq_none (by omega)]
theorem bit_append (l r : List UInt8) (i : Nat) : bit (l ++ r) i = if i < 8 * l.length then bit l i else bit r (i - 8 * l.length) := by
  unfold bit
  by_cases h : i < 8 * l.length
  · rw [if_pos h, List.getElem?_append_left (by omega)]
  · rw [if_neg h, List.getElem?_append_right (by omega), show (i - 8 * l.length) / 8 = i / 8 - l.length by omega, show (i - 8 * l.length) % 8 = i % 8 by omega]
def ones : BitVec 32 := 0xffffffff#32
/-- The sum. -/
def sumB (l : List UInt8) : BitVec 32 := run ones (bit l) (8 * l.length + 32)
/-- A word's four bytes, the highest first. -/
def w4 (x : BitVec 32) : List UInt8 := [⟨(x >>> 24).setWidth 8⟩, ⟨(x >>> 16).setWidth 8⟩, ⟨(x >>> 8).setWidth 8⟩, ⟨x.setWidth 8⟩]
theorem w4_length (x : BitVec 32) : (w4 x).length = 4 := rfl
theorem bit_w4 (x : BitVec 32) (i : Nat) (h : i < 32) : bit (w4 x) i = x.getLsbD (31 - i) := by
  unfold bit w4
  have : i / 8 = 0 ∨ i / 8 = 1 ∨ i / 8 = 2 ∨ i / 8 = 3 := by omega
  rcases this with h1 | h1 | h1 | h1 <;> rw [h1] <;> simp [show 7 - i % 8 < 8 from by omega] <;> congr 1 <;> omega
theorem w4_inj {x y : BitVec 32} (h : w4 x = w4 y) : x = y := by
  apply BitVec.eq_of_getLsbD_eq
  intro i hi
  have h1 := bit_w4 x (31 - i) (by omega)
  have h2 := bit_w4 y (31 - i) (by omega)
  rw [h, h2, show 31 - (31 - i) = i by omega] at h1
  exact h1.symm
/-- The word of four bytes. -/
def wd (a b c d : UInt8) : BitVec 32 := (a.toBitVec.setWidth 32 <<< 24) ||| (b.toBitVec.setWidth 32 <<< 16) ||| (c.toBitVec.setWidth 32 <<< 8) ||| d.toBitVec.setWidth 32
theorem wd_bit (a b c d : UInt8) (i : Nat) (h : i < 32) : (wd a b c d).getLsbD (31 - i) = bit [a, b, c, d] i := by
  unfold bit wd
  have : i / 8 = 0 ∨ i / 8 = 1 ∨ i / 8 = 2 ∨ i / 8 = 3 := by omega
  have hb : ∀ (q : UInt8) (j : Nat), 8 ≤ j → q.toBitVec.getLsbD j = false := fun q j hj => BitVec.getLsbD_of_ge _ _ hj
  rcases this with h1 | h1 | h1 | h1 <;> rw [h1] <;> simp [BitVec.getLsbD_or]
  · rw [hb b _ (by omega), hb c _ (by omega), hb d _ (by omega)]
    simp [show ¬ 31 - i < 24 by omega, show 31 - i < 32 by omega, show 31 - i - 24 = 7 - i % 8 by omega]
    intro
    omega
  · rw [hb c _ (by omega), hb d _ (by omega)]
    simp [show 31 - i < 24 by omega, show ¬ 31 - i < 16 by omega, show 31 - i < 32 by omega, show 31 - i - 16 = 7 - i % 8 by omega]
    intro
    omega
  · rw [hb d _ (by omega)]
    simp [show 31 - i < 24 by omega, show 31 - i < 16 by omega, show ¬ 31 - i < 8 by omega, show 31 - i < 32 by omega, show 31 - i - 8 = 7 - i % 8 by omega]
    intro
    omega
  · simp [show 31 - i < 24 by omega, show 31 - i < 16 by omega, show 31 - i = 7 - i % 8 by omega, show 7 - i % 8 < 32 by omega, show 7 - i % 8 < 24 by omega, show 7 - i % 8 < 16 by omega, show 7 - i % 8 < 8 by omega]
theorem bits_eq {l r : List UInt8} (hl : l.length = r.length) (h : ∀ i, i < 8 * l.length → bit l i = bit r i) : l = r := by
  apply List.ext_getElem hl
  intro j h1 h2
  rw [← UInt8.toBitVec_inj]
  apply BitVec.eq_of_getLsbD_eq
  intro i hi
  have := h (8 * j + (7 - i)) (by omega)
  unfold bit at this
  rw [show (8 * j + (7 - i)) / 8 = j by omega, List.getElem?_eq_getElem h1, List.getElem?_eq_getElem h2] at this
  simpa [show 7 - (8 * j + (7 - i)) % 8 = i by omega, show 7 - (7 - i) % 8 = i by omega] using this
theorem w4_wd (a b c d : UInt8) : w4 (wd a b c d) = [a, b, c, d] := by
  refine bits_eq rfl fun i hi => ?_
  rw [w4_length] at hi
  rw [bit_w4 _ i hi, wd_bit a b c d i hi]

/-- The state behind a row's bits, but no noughts: 0 just if its last four bytes are the sum of those ahead. -/
def left (l : List UInt8) : BitVec 32 := run ones (bit l) (8 * l.length)
theorem left_sum (l : List UInt8) (x : BitVec 32) : left (l ++ w4 x) = sumB l ^^^ x := by
  unfold left sumB
  rw [List.length_append, w4_length, Nat.mul_add]
  have h1 : ∀ i, i < 8 * l.length + 8 * 4 → bit (l ++ w4 x) i = (bit l i ^^ (decide (8 * l.length ≤ i) && x.getLsbD (31 - (i - 8 * l.length)))) := fun i hi => by
    rw [bit_append]
    by_cases h : i < 8 * l.length
    · rw [if_pos h]
      simp [show ¬ 8 * l.length ≤ i by omega]
    · rw [if_neg h, bit_out l i (by omega), bit_w4 _ _ (by omega)]
      simp [show 8 * l.length ≤ i by omega]
  rw [run_cong h1]
  have h2 := run_xor ones 0 (bit l) (fun i => decide (8 * l.length ≤ i) && x.getLsbD (31 - (i - 8 * l.length))) (8 * l.length + 8 * 4)
  rw [show ones ^^^ (0 : BitVec 32) = ones from BitVec.xor_zero] at h2
  rw [h2]
  congr 1
  rw [run_add, run_zero (fun i hi => by simp; omega)]
  apply BitVec.eq_of_getLsbD_eq
  intro j hj
  rw [run_word _ _ (by omega)]
  have e : decide (8 * l.length ≤ 8 * l.length + (8 * 4 - 1 - j)) = true := by simp
  have e2 : 31 - (8 * l.length + (8 * 4 - 1 - j) - 8 * l.length) = j := by omega
  have e3 : decide (j < 8 * 4) = true := by simp; omega
  simp only [e, e2, e3, Bool.true_and]
theorem left_zero (l : List UInt8) (x : BitVec 32) : left (l ++ w4 x) = 0 ↔ sumB l = x := by
  rw [left_sum]
  refine ⟨fun h => ?_, fun h => by rw [h, BitVec.xor_self]; rfl⟩
  have : sumB l = sumB l ^^^ x ^^^ x := by rw [BitVec.xor_assoc, BitVec.xor_self, BitVec.xor_zero]
  rw [this, h]
  exact BitVec.zero_xor
/-- Another row, that differs in up to 32 bits side by side: what is left differs, too, if a bit does. -/
theorem left_burst (l r : List UInt8) (g : Nat → Bool) (m w : Nat) (hl : r.length = l.length) (hw : w ≤ 32) (hn : m + w ≤ 8 * l.length) (h0 : ∀ i, i < m ∨ m + w ≤ i → g i = false) (h : ∀ i, i < 8 * l.length → bit r i = (bit l i ^^ g i)) :
    left r = left l ↔ ∀ i, g i = false := by
  unfold left
  rw [hl, run_cong h]
  have h2 := run_xor ones 0 (bit l) g (8 * l.length)
  rw [show ones ^^^ (0 : BitVec 32) = ones from BitVec.xor_zero] at h2
  rw [h2]
  constructor
  · intro h
    refine run_burst g m w (8 * l.length) hw hn h0 ?_
    have e : run 0 g (8 * l.length) = run ones (bit l) (8 * l.length) ^^^ (run ones (bit l) (8 * l.length) ^^^ run 0 g (8 * l.length)) := by rw [← BitVec.xor_assoc, BitVec.xor_self]; exact BitVec.zero_xor.symm
    rw [e, h, BitVec.xor_self]
    rfl
  · intro h
    rw [run_zero (fun i _ => h i)]
    exact BitVec.xor_zero
/-- Sums of three rows of as many bytes, put together. -/
theorem sumB_three (a b c d : List UInt8) (hb : b.length = a.length) (hc : c.length = a.length) (hd : d.length = a.length) (h : ∀ i, i < 8 * a.length → bit d i = (bit a i ^^ bit b i ^^ bit c i)) :
    sumB d = sumB a ^^^ sumB b ^^^ sumB c := by
  unfold sumB
  rw [hb, hc, hd]
  have h1 : ∀ i, i < 8 * a.length + 32 → bit d i = (bit a i ^^ bit b i ^^ bit c i) := fun i hi => by
    by_cases h2 : i < 8 * a.length
    · exact h i h2
    · rw [bit_out a i (by omega), bit_out b i (by omega), bit_out c i (by omega), bit_out d i (by omega)]
      rfl
  rw [run_cong h1, ← run_xor, ← run_xor]
  rfl
/-- One byte put together with another one. -/
theorem bit_set (l : List UInt8) (j : Nat) (hj : j < l.length) (y : UInt8) (i : Nat) : bit (l.set j (l[j] ^^^ y)) i = (bit l i ^^ (decide (i / 8 = j) && y.toBitVec.getLsbD (7 - i % 8))) := by
  unfold bit
  rw [List.getElem?_set]
  by_cases h : j = i / 8
  · subst h
    rw [if_pos rfl, if_pos hj, List.getElem?_eq_getElem hj]
    simp
  · rw [if_neg h]
    simp [show ¬ i / 8 = j by omega]
end Go.Proofs.YtaacjpcckinaiaaGreat.Frm
set_option linter.unusedVariables false
set_option maxRecDepth 100000
set_option linter.unusedSimpArgs false
namespace Go.Proofs.YtaacjpcckinaiaaGreat.Frm

/-- What is summed of a payload's frame; the frame; the payload's place in a row. -/
def hd (p : List UInt8) : List UInt8 := 71 :: 1 :: UInt8.ofNat (p.length / 256) :: UInt8.ofNat p.length :: p
def frm (p : List UInt8) : List UInt8 := hd p ++ w4 (sumB (hd p))
def mid (b : List UInt8) : List UInt8 := (b.take (b.length - 4)).drop 4
theorem hd_length (p : List UInt8) : (hd p).length = p.length + 4 := rfl
theorem frm_length (p : List UInt8) : (frm p).length = p.length + 8 := by unfold frm; rw [List.length_append, hd_length, w4_length]
theorem mid_length (b : List UInt8) : (mid b).length = b.length - 4 - 4 := by unfold mid; rw [List.length_drop, List.length_take]; omega
theorem mid_frm (p : List UInt8) : mid (frm p) = p := by
  unfold mid
  rw [frm_length]
  unfold frm
  rw [List.take_append_of_le_length (by rw [hd_length]; omega), List.take_of_length_le (by rw [hd_length]; omega)]
  rfl
theorem frm_inj {p q : List UInt8} (h : frm p = frm q) : p = q := by rw [← mid_frm p, ← mid_frm q, h]
theorem left_frm (p : List UInt8) : left (frm p) = 0 := (left_zero _ _).2 rfl
/-- Is it a frame? -/
def isFr (b : List UInt8) : Prop := 8 ≤ b.length ∧ b.length ≤ 120 ∧ frm (mid b) = b
instance (b : List UInt8) : Decidable (isFr b) := by unfold isFr; infer_instance
theorem isFr_frm (p : List UInt8) (h : p.length ≤ 112) : isFr (frm p) := ⟨by rw [frm_length]; omega, by rw [frm_length]; omega, by rw [mid_frm]⟩
theorem frm_get3 (p : List UInt8) : (frm p)[3]? = some (UInt8.ofNat p.length) := rfl
/-- A frame's fourth byte tells how long it is. -/
theorem isFr_len {b : List UInt8} (h : isFr b) : b[3]? = some (UInt8.ofNat (b.length - 8)) := by
  have := frm_get3 (mid b)
  rw [h.2.2, mid_length] at this
  rw [this]
  congr 2
theorem byte_len {n m : Nat} (hn : n < 256) (hm : m < 256) (h : UInt8.ofNat n = UInt8.ofNat m) : n = m := by
  have := congrArg UInt8.toNat h
  simp at this
  omega
theorem frm_more (p : List UInt8) (hp : p.length ≤ 112) (x : UInt8) : ¬ isFr (frm p ++ [x]) := by
  intro h
  have h1 := isFr_len h
  rw [List.getElem?_append_left (by rw [frm_length]; omega), frm_get3, List.length_append, frm_length] at h1
  injection h1 with h1
  have := byte_len (by omega) (by simp; omega) h1
  simp at this
theorem frm_less (p : List UInt8) (hp : p.length ≤ 112) : ¬ isFr ((frm p).take (p.length + 7)) := by
  intro h
  have h0 := h.1
  have h1 := isFr_len h
  rw [List.length_take, frm_length] at h0
  rw [List.getElem?_take, if_pos (by omega), frm_get3, List.length_take, frm_length] at h1
  injection h1 with h1
  have := byte_len (by omega) (by omega) h1
  omega
/-- Four bytes ahead, four behind. -/
theorem isFr_parts {b : List UInt8} (h : 8 ≤ b.length) : ∃ a0 a1 a2 a3 x, b = a0 :: a1 :: a2 :: a3 :: (mid b ++ w4 x) := by
  have e : b = b.take 4 ++ (mid b ++ b.drop (b.length - 4)) := by
    unfold mid
    conv => lhs; rw [← List.take_append_drop (b.length - 4) b]
    rw [← List.append_assoc]
    congr 1
    conv => lhs; rw [← List.take_append_drop 4 (b.take (b.length - 4))]
    congr 1
    rw [List.take_take, Nat.min_eq_left (by omega)]
  have h4 : (b.take 4).length = 4 := by rw [List.length_take]; omega
  have h5 : (b.drop (b.length - 4)).length = 4 := by rw [List.length_drop]; omega
  generalize b.take 4 = l at *
  generalize b.drop (b.length - 4) = r at *
  match l, h4, r, h5 with
  | [a0, a1, a2, a3], _, [c0, c1, c2, c3], _ =>
    refine ⟨a0, a1, a2, a3, wd c0 c1 c2 c3, ?_⟩
    rw [w4_wd]
    exact e
/-- What a look at it must find. -/
theorem isFr_iff {b : List UInt8} (h : 8 ≤ b.length) : isFr b ↔ b.length ≤ 120 ∧ b[0]? = some 71 ∧ b[1]? = some 1 ∧ b[2]? = some 0 ∧ b[3]? = some (UInt8.ofNat (b.length - 8)) ∧ left b = 0 := by
  constructor
  · intro hf
    have h3 := isFr_len hf
    have hl := hf.2.1
    have hm := mid_length b
    obtain ⟨_, _, he⟩ := hf
    have h0 : (frm (mid b))[0]? = some 71 := rfl
    have h1 : (frm (mid b))[1]? = some 1 := rfl
    have h2 : (frm (mid b))[2]? = some (UInt8.ofNat ((mid b).length / 256)) := rfl
    have hz := left_frm (mid b)
    rw [show (mid b).length / 256 = 0 by omega] at h2
    rw [he] at h0 h1 h2 hz
    exact ⟨hl, h0, h1, h2, h3, hz⟩
  · rintro ⟨hl, h0, h1, h2, h3, hz⟩
    refine ⟨h, hl, ?_⟩
    have hm := mid_length b
    obtain ⟨a0, a1, a2, a3, x, e⟩ := isFr_parts h
    generalize mid b = p at *
    have hn : b.length - 8 = p.length := by rw [hm]; omega
    rw [hn] at h3
    subst e
    simp at h0 h1 h2 h3
    have he : hd p = a0 :: a1 :: a2 :: a3 :: p := by
      unfold hd
      rw [show p.length / 256 = 0 by omega, h0, h1, h2, h3]
      rfl
    have hs : sumB (hd p) = x := by
      rw [← left_zero, he]
      exact hz
    unfold frm
    rw [hs, he]
    rfl
/-- A frame with up to 32 bits side by side that may be others is one just if none is. -/
theorem isFr_burst {b c : List UInt8} (hb : isFr b) (g : Nat → Bool) (m w : Nat) (hl : c.length = b.length) (hw : w ≤ 32) (hn : m + w ≤ 8 * b.length) (h0 : ∀ i, i < m ∨ m + w ≤ i → g i = false) (h : ∀ i, i < 8 * b.length → bit c i = (bit b i ^^ g i)) :
    isFr c ↔ ∀ i, g i = false := by
  constructor
  · intro hc
    refine (left_burst b c g m w hl hw hn h0 h).1 ?_
    rw [((isFr_iff hc.1).1 hc).2.2.2.2.2, ((isFr_iff hb.1).1 hb).2.2.2.2.2]
  · intro hg
    have : c = b := bits_eq hl fun i hi => by rw [h i (by rw [← hl]; exact hi), hg i, Bool.xor_false]
    rw [this]
    exact hb
theorem flip_bit : ∀ r < 8, ∀ j < 8, (UInt8.ofNat (128 / 2 ^ r)).toBitVec.getLsbD (7 - j) = decide (j = r) := by decide
/-- One bit more is another one. -/
theorem bit_flip (l : List UInt8) (n : Nat) (hn : n / 8 < l.length) (i : Nat) : bit (l.set (n / 8) (l[n / 8] ^^^ UInt8.ofNat (128 / 2 ^ (n % 8)))) i = (bit l i ^^ decide (i = n)) := by
  rw [bit_set, flip_bit _ (by omega) _ (by omega)]
  congr 1
  by_cases h : i = n
  · subst h; simp
  · simp [h]; omega

/-- What is told of a row: the payload, the error. -/
def openE (b : List UInt8) : Int := if b.length < 8 then 11 else if isFr b then 0 else 12
def openP (b : List UInt8) : List UInt8 := if isFr b then mid b else []
def closeE (p : List UInt8) : Int := if 112 < p.length then 2 else 0
def closeB (p : List UInt8) : List UInt8 := if 112 < p.length then [] else frm p
end Go.Proofs.YtaacjpcckinaiaaGreat.Frm
set_option linter.unusedVariables false
set_option maxRecDepth 100000
set_option linter.unusedSimpArgs false
namespace Go.Proofs.YtaacjpcckinaiaaGreat.Frm
open Go.RowKit

theorem ret_i {a b : Int} (h : a = b) : Ending.returned (.int .i64 a) = .returned (.int .i64 b) := by rw [h]
theorem ret_b {a b : Bool} (h : a = b) : Ending.returned (.bool a) = .returned (.bool b) := by rw [h]
theorem ret_u {a b : Int} (h : a = b) : Ending.returned (.int .u32 a) = .returned (.int .u32 b) := by rw [h]

/-- What the machine's operations do with words of 32 bits. -/
theorem u32_shl (s : BitVec 32) : (s.toNat : Int) * (2 : Int) % (4294967296 : Int) = ((s <<< 1).toNat : Int) := by
  rw [BitVec.toNat_shiftLeft, Nat.shiftLeft_eq]
  omega
theorem u32_or_bv (s t : BitVec 32) : bits .or .u32 (s.toNat : Int) (t.toNat : Int) = ((s ||| t).toNat : Int) := by
  rw [u32_or_nat _ _ s.isLt t.isLt, BitVec.toNat_or]
theorem u32_xor_bv (s t : BitVec 32) : bits .xor .u32 (s.toNat : Int) (t.toNat : Int) = ((s ^^^ t).toNat : Int) := by
  rw [u32_xor_nat _ _ s.isLt t.isLt, BitVec.toNat_xor]
theorem u32_and_bv (s t : BitVec 32) : bits .and .u32 (s.toNat : Int) (t.toNat : Int) = ((s &&& t).toNat : Int) := by
  rw [u32_and_nat _ _ s.isLt t.isLt, BitVec.toNat_and]
theorem top_bit : ∀ i < 32, (2147483648#32).getLsbD i = decide (i = 31) := by decide
theorem top_word (s : BitVec 32) : s &&& 2147483648#32 = if s.msb then 2147483648#32 else 0#32 := by
  apply BitVec.eq_of_getLsbD_eq
  intro i hi
  rw [BitVec.getLsbD_and, top_bit i hi, BitVec.msb_eq_getLsbD_last]
  by_cases h : i = 31
  · subst h
    cases hs : s.getLsbD 31 <;> simp [hs]
  · cases hs : s.getLsbD (32 - 1) <;> simp [h, top_bit i hi]
theorem top_and (s : BitVec 32) : bits .and .u32 (s.toNat : Int) 2147483648 = if s.msb then 2147483648 else 0 := by
  have h := u32_and_bv s 2147483648#32
  rw [show ((2147483648#32).toNat : Int) = 2147483648 from rfl] at h
  rw [h, top_word]
  cases s.msb <;> rfl
theorem low_or (s : BitVec 32) : s <<< 1 ||| 1#32 = s <<< 1 ^^^ 1#32 := by
  apply BitVec.eq_of_getLsbD_eq
  intro i hi
  rw [BitVec.getLsbD_or, BitVec.getLsbD_xor]
  cases i with
  | zero => simp
  | succ i => simp

set_option maxRecDepth 100000 in
set_option maxHeartbeats 1000000 in
theorem Step_any (s : BitVec 32) (b : Bool) (w : World) : Calls Tryz.prog 124 #[.int .u32 (s.toNat : Int), .bool b] w fun e w' => e = .returned (.int .u32 ((stp s b).toNat : Int)) ∧ w = w' := by
  have h1 := u32_shl s
  have h2 := top_and s
  have h3 := u32_or_bv (s <<< 1) 1#32
  have h4 := u32_xor_bv (s <<< 1) poly
  have h5 := u32_xor_bv (s <<< 1 ^^^ 1#32) poly
  rw [low_or] at h3
  rw [show ((1#32).toNat : Int) = 1 from rfl] at h3
  rw [show (poly.toNat : Int) = 1947962583 from rfl] at h4 h5
  obtain ⟨r, hr⟩ : ∃ r, (stp s b).toNat = r := ⟨_, rfl⟩
  have hr' := hr
  unfold stp at hr'
  rw [hr]
  clear hr
  generalize hx1 : (s <<< 1).toNat = x1 at *
  generalize hx2 : (s <<< 1 ^^^ 1#32).toNat = x2 at *
  generalize hx3 : (s <<< 1 ^^^ poly).toNat = x3 at *
  generalize hx4 : (s <<< 1 ^^^ 1#32 ^^^ poly).toNat = x4 at *
  have e1 : b = false → s.msb = false → r = x1 := by intro hb hm; rw [← hr', ← hx1, hb, hm]; simp
  have e2 : b = true → s.msb = false → r = x2 := by intro hb hm; rw [← hr', ← hx2, hb, hm]; simp
  have e3 : b = false → s.msb = true → r = x3 := by intro hb hm; rw [← hr', ← hx3, hb, hm]; simp
  have e4 : b = true → s.msb = true → r = x4 := by intro hb hm; rw [← hr', ← hx4, hb, hm]; simp
  clear hr' hx1 hx2 hx3 hx4
  have hlt := s.isLt
  generalize s.toNat = sn at *
  cases b <;> cases hm : s.msb <;> rw [hm] at h2 <;> simp only [hm, if_true, if_false, Bool.false_eq_true] at h2 <;> simp only [hm, forall_const, reduceCtorEq, false_implies] at e1 e2 e3 e4 <;>
  · clear hm
    go_enter Tryz.func124, Tryz.ntmps124
    go_wp2
    go_ret
    refine ⟨ret_u ?_, rfl⟩
    simp only [h1, h3, h4, h5, e1, e2, e3, e4]

set_option maxRecDepth 100000 in
set_option maxHeartbeats 1000000 in
theorem Step_ref (s : BitVec 32) (b : Bool) (w : World) : Calls Tryz.prog 62 #[.int .u32 (s.toNat : Int), .bool b] w fun e w' => e = .returned (.int .u32 ((stp s b).toNat : Int)) ∧ w = w' := by
  have h1 := u32_shl s
  have h3 := u32_or_bv (s <<< 1) 1#32
  have h4 := u32_xor_bv (s <<< 1) poly
  have h5 := u32_xor_bv (s <<< 1 ^^^ 1#32) poly
  rw [low_or] at h3
  rw [show ((1#32).toNat : Int) = 1 from rfl] at h3
  rw [show (poly.toNat : Int) = 1947962583 from rfl] at h4 h5
  have h2 : (((s.toNat : Int) / 2147483648) == 1) = s.msb := by
    rw [BitVec.msb_eq_decide, Bool.eq_iff_iff, beq_iff_eq, decide_eq_true_iff]
    have := s.isLt
    omega
  obtain ⟨r, hr⟩ : ∃ r, (stp s b).toNat = r := ⟨_, rfl⟩
  have hr' := hr
  unfold stp at hr'
  rw [hr]
  clear hr
  generalize hx1 : (s <<< 1).toNat = x1 at *
  generalize hx2 : (s <<< 1 ^^^ 1#32).toNat = x2 at *
  generalize hx3 : (s <<< 1 ^^^ poly).toNat = x3 at *
  generalize hx4 : (s <<< 1 ^^^ 1#32 ^^^ poly).toNat = x4 at *
  have e1 : b = false → s.msb = false → r = x1 := by intro hb hm; rw [← hr', ← hx1, hb, hm]; simp
  have e2 : b = true → s.msb = false → r = x2 := by intro hb hm; rw [← hr', ← hx2, hb, hm]; simp
  have e3 : b = false → s.msb = true → r = x3 := by intro hb hm; rw [← hr', ← hx3, hb, hm]; simp
  have e4 : b = true → s.msb = true → r = x4 := by intro hb hm; rw [← hr', ← hx4, hb, hm]; simp
  clear hr' hx1 hx2 hx3 hx4
  have hlt := s.isLt
  generalize s.toNat = sn at *
  cases b <;> cases hm : s.msb <;> rw [hm] at h2 <;> simp only [hm, forall_const, reduceCtorEq, false_implies] at e1 e2 e3 e4 <;>
  · clear hm
    go_enter Tryz.func62, Tryz.ntmps62
    go_wp2
    go_ret
    refine ⟨ret_u ?_, rfl⟩
    simp only [h1, h3, h4, h5, e1, e2, e3, e4]

/-- How long a frame is. -/
def siz (n : Int) : Int := if n < 0 ∨ 112 < n then 0 else n + 8
set_option maxHeartbeats 1000000 in
theorem Size_any (n : Int) (w : World) : Calls Tryz.prog 54 #[.int .i64 n] w fun e w' => e = .returned (.int .i64 (siz n)) ∧ w = w' := by
  unfold siz
  by_cases h : n < 0
  · rw [if_pos (.inl h)]
    go_enter Tryz.func54, Tryz.ntmps54
    go_wp2_with fail
    refine wp_scope_fwd ?_
    go_wp2
    go_step3
    refine fwd_goto _ rfl ?_
    go_wp2
    refine nog_ret ?_
    go_ret
    exact ⟨rfl, rfl⟩
  · by_cases h2 : 112 < n
    · rw [if_pos (.inr h2)]
      go_enter Tryz.func54, Tryz.ntmps54
      go_wp2_with fail
      refine wp_scope_fwd ?_
      go_wp2
      go_step3
      refine fwd_goto _ rfl ?_
      go_wp2
      refine nog_ret ?_
      go_ret
      exact ⟨rfl, rfl⟩
    · rw [if_neg (by omega)]
      go_enter Tryz.func54, Tryz.ntmps54
      go_wp2_with fail
      refine wp_scope_fwd ?_
      go_wp2
      refine fwd_ret ?_
      go_ret
      exact ⟨ret_i (by omega), rfl⟩
set_option maxHeartbeats 1000000 in
theorem Size_ref (n : Int) (w : World) : Calls Tryz.prog 43 #[.int .i64 n] w fun e w' => e = .returned (.int .i64 (siz n)) ∧ w = w' := by
  unfold siz
  by_cases h : n < 0
  · rw [if_pos (.inl h)]
    go_enter Tryz.func43, Tryz.ntmps43
    go_wp2
    go_ret
    exact ⟨rfl, rfl⟩
  · by_cases h2 : 112 < n
    · rw [if_pos (.inr h2)]
      go_enter Tryz.func43, Tryz.ntmps43
      go_wp2
      go_ret
      exact ⟨rfl, rfl⟩
    · rw [if_neg (by omega)]
      go_enter Tryz.func43, Tryz.ntmps43
      go_wp2
      go_ret
      exact ⟨rfl, rfl⟩

/-- A slice of bytes. -/
theorem el23 : ElOf Tryz.prog 28 5 (.int .u8 0) 1 := ⟨Tryz.underlying28, by kernel_rfl, rfl, by decide⟩
set_option maxHeartbeats 1000000 in
theorem Equal_any (va vb : Value) (la lb : List UInt8) (w : World) (h1 : Sl w va (bv la)) (h2 : Sl w vb (bv lb)) :
    Calls Tryz.prog 49 #[va, vb] w fun e w' => e = .returned (.bool (decide (la = lb))) ∧ w = w' := by
  have r1 := run_str (P := Tryz.prog) 28 9 5 Tryz.underlying28 Tryz.underlying5 Tryz.underlying9 va la h1
  have r2 := run_str (P := Tryz.prog) 28 9 5 Tryz.underlying28 Tryz.underlying5 Tryz.underlying9 vb lb h2
  go_enter Tryz.func49, Tryz.ntmps49
  go_wp2
  go_ret
  refine ⟨ret_b ?_, rfl⟩
  rw [Bool.eq_iff_iff, beq_iff_eq, decide_eq_true_iff]
end Go.Proofs.YtaacjpcckinaiaaGreat.Frm
set_option linter.unusedVariables false
set_option maxRecDepth 100000
set_option linter.unusedSimpArgs false
namespace Go.Proofs.YtaacjpcckinaiaaGreat.Frm

/-- The first k of by's bits, from the bit m on. -/
def gb (m : Nat) (s : BitVec 32) (k i : Nat) : Bool := decide (m ≤ i ∧ i < m + k) && s.getLsbD (i - m)
theorem gb_zero (m : Nat) (s : BitVec 32) (i : Nat) : gb m s 0 i = false := by
  unfold gb
  rw [decide_eq_false (by omega)]
  rfl
theorem gb_no (m : Nat) (s : BitVec 32) (k i : Nat) (h : s.getLsbD k = false) : gb m s (k + 1) i = gb m s k i := by
  unfold gb
  by_cases hi : i = m + k
  · subst hi
    rw [show m + k - m = k by omega, h, Bool.and_false, Bool.and_false]
  · rw [decide_eq_decide.2 (show m ≤ i ∧ i < m + (k + 1) ↔ m ≤ i ∧ i < m + k by omega)]
theorem gb_yes (m : Nat) (s : BitVec 32) (k i : Nat) (h : s.getLsbD k = true) : gb m s (k + 1) i = (gb m s k i ^^ decide (i = m + k)) := by
  unfold gb
  by_cases hi : i = m + k
  · subst hi
    rw [show m + k - m = k by omega, h, decide_eq_true (show m ≤ m + k ∧ m + k < m + (k + 1) by omega), decide_eq_false (show ¬ (m ≤ m + k ∧ m + k < m + k) by omega), decide_eq_true rfl]
    rfl
  · rw [decide_eq_decide.2 (show m ≤ i ∧ i < m + (k + 1) ↔ m ≤ i ∧ i < m + k by omega), decide_eq_false hi, Bool.xor_false]
theorem gb_all (m : Nat) (s : BitVec 32) : (∀ i, gb m s 32 i = false) ↔ s = 0#32 := by
  constructor
  · intro h
    apply BitVec.eq_of_getLsbD_eq
    intro i hi
    have := h (m + i)
    unfold gb at this
    rw [decide_eq_true (show m ≤ m + i ∧ m + i < m + 32 by omega), Bool.true_and, show m + i - m = i by omega] at this
    rw [this]
    simp
  · rintro rfl i
    unfold gb
    simp
/-- What a row becomes, bit by bit. -/
structure Burst (B C : List UInt8) (m : Nat) (s : BitVec 32) (k : Nat) : Prop where
  len : C.length = B.length
  bits : ∀ i, bit C i = (bit B i ^^ gb m s k i)
theorem Burst.start (B : List UInt8) (m : Nat) (s : BitVec 32) : Burst B B m s 0 := ⟨rfl, fun i => by rw [gb_zero, Bool.xor_false]⟩
theorem Burst.no {B C : List UInt8} {m : Nat} {s : BitVec 32} {k : Nat} (h : Burst B C m s k) (hb : s.getLsbD k = false) : Burst B C m s (k + 1) := ⟨h.len, fun i => by rw [gb_no m s k i hb, h.bits]⟩
theorem Burst.yes {B C : List UInt8} {m : Nat} {s : BitVec 32} {k : Nat} (h : Burst B C m s k) (hb : s.getLsbD k = true) (hl : (m + k) / 8 < C.length) :
    Burst B (C.set ((m + k) / 8) (C[(m + k) / 8] ^^^ UInt8.ofNat (128 / 2 ^ ((m + k) % 8)))) m s (k + 1) :=
  ⟨by rw [List.length_set, h.len], fun i => by rw [bit_flip C (m + k) hl i, gb_yes m s k i hb, h.bits, Bool.xor_assoc]⟩
theorem Burst.fr {B C : List UInt8} {m : Nat} {s : BitVec 32} (h : Burst B C m s 32) (hB : isFr B) (hm : m + 32 ≤ 8 * B.length) : isFr C ↔ s = 0#32 := by
  rw [isFr_burst hB (gb m s 32) m 32 h.len (Nat.le_refl _) hm (fun i hi => by unfold gb; rw [decide_eq_false (by omega)]; rfl) (fun i _ => h.bits i), gb_all]
end Go.Proofs.YtaacjpcckinaiaaGreat.Frm
