/- The plain mathematics of sums: states of 32 bits, that go on bit by bit. No program is named here. -/
set_option linter.unusedVariables false
set_option linter.unusedSimpArgs false
namespace Go.Proofs.Ythjfjlkkbdjgfaa

def poly : BitVec 32 := 0x741b8cd7#32
/-- The state behind a bit. -/
def stp (s : BitVec 32) (b : Bool) : BitVec 32 := (s <<< 1) ^^^ (if b then 1#32 else 0#32) ^^^ (if s.msb then poly else 0#32)
theorem stp_xor (s t : BitVec 32) (b c : Bool) : stp (s ^^^ t) (b ^^ c) = stp s b ^^^ stp t c := by
  unfold stp
  rw [BitVec.shiftLeft_xor_distrib, BitVec.msb_xor]
  have h (A B x x' y y' : BitVec 32) : A ^^^ x ^^^ y ^^^ (B ^^^ x' ^^^ y') = (A ^^^ B) ^^^ (x ^^^ x') ^^^ (y ^^^ y') := by ac_rfl
  rw [h]
  congr 1
  · congr 1
    cases b <;> cases c <;> rfl
  · cases s.msb <;> cases t.msb <;> simp
theorem stp_zero : stp 0 false = 0 := by decide
theorem stp_inj0 {s : BitVec 32} (h : stp s false = 0) : s = 0 := by
  unfold stp at h
  cases hm : s.msb
  · rw [hm] at h
    simp at h
    apply BitVec.eq_of_getLsbD_eq
    intro i hi
    by_cases h31 : i = 31
    · subst h31
      rw [BitVec.msb_eq_getLsbD_last] at hm
      simpa using hm
    · have := congrArg (fun x => x.getLsbD (i + 1)) h
      simp at this
      have := this (by omega)
      simpa using this
  · rw [hm] at h
    have := congrArg (fun x => x.getLsbD 0) h
    simp [poly] at this
theorem stp_inj {s t : BitVec 32} {b : Bool} : stp s b = stp t b ↔ s = t := by
  refine ⟨fun h => ?_, fun h => by rw [h]⟩
  have h1 := stp_xor s t b b
  rw [h, Bool.xor_self, BitVec.xor_self] at h1
  have h2 := stp_inj0 h1
  have h3 : s = s ^^^ t ^^^ t := by rw [BitVec.xor_assoc, BitVec.xor_self, BitVec.xor_zero]
  rw [h3, h2]
  exact BitVec.zero_xor
theorem stp_one (s : BitVec 32) : stp s true = stp s false ^^^ 1#32 := by
  unfold stp
  simp
  ac_rfl

/-- The state behind the first n bits of f. -/
def run (s : BitVec 32) (f : Nat → Bool) : Nat → BitVec 32
  | 0 => s
  | n + 1 => stp (run s f n) (f n)
theorem run_xor (s t : BitVec 32) (f g : Nat → Bool) (n : Nat) : run (s ^^^ t) (fun i => f i ^^ g i) n = run s f n ^^^ run t g n := by
  induction n with
  | zero => rfl
  | succ n ih => simp only [run]; rw [ih, stp_xor]
theorem run_add (s : BitVec 32) (f : Nat → Bool) (m n : Nat) : run s f (m + n) = run (run s f m) (fun i => f (m + i)) n := by
  induction n with
  | zero => rfl
  | succ n ih => rw [← Nat.add_assoc]; simp only [run]; rw [ih]
theorem run_cong {s : BitVec 32} {f g : Nat → Bool} {n : Nat} (h : ∀ i, i < n → f i = g i) : run s f n = run s g n := by
  induction n with
  | zero => rfl
  | succ n ih => simp only [run]; rw [ih fun i hi => h i (by omega), h n (by omega)]
theorem run_zero {f : Nat → Bool} {n : Nat} (h : ∀ i, i < n → f i = false) : run 0 f n = 0 := by
  induction n with
  | zero => rfl
  | succ n ih => simp only [run]; rw [ih fun i hi => h i (by omega), h n (by omega), stp_zero]
theorem run_tail {s : BitVec 32} {f : Nat → Bool} {n : Nat} (h : ∀ i, i < n → f i = false) (h0 : run s f n = 0) : s = 0 := by
  induction n with
  | zero => exact h0
  | succ n ih =>
    simp only [run] at h0
    rw [h n (by omega)] at h0
    exact ih (fun i hi => h i (by omega)) (stp_inj0 h0)
/-- Up to 32 bits are just shifted in. -/
theorem run_word (f : Nat → Bool) (k : Nat) (hk : k ≤ 32) : ∀ j, (run 0 f k).getLsbD j = (decide (j < k) && f (k - 1 - j)) := by
  induction k with
  | zero => intro j; simp [run]
  | succ k ih =>
    intro j
    have ih := ih (by omega)
    have hm : (run 0 f k).msb = false := by
      rw [BitVec.msb_eq_getLsbD_last, ih]
      simp
      omega
    simp only [run]
    unfold stp
    rw [hm]
    simp only [BitVec.getLsbD_xor, BitVec.getLsbD_shiftLeft, ih]
    rcases Nat.eq_zero_or_pos j with rfl | hj
    · cases hf : f k <;> simp [hf]
    · by_cases hj2 : j < 32
      · have e1 : (if f k = true then 1#32 else 0#32).getLsbD j = false := by
          cases f k
          · simp
          · simp; omega
        rw [e1]
        simp [hj2, show ¬ j < 1 by omega, show k - 1 - (j - 1) = k - j by omega]
        by_cases h : j < k + 1
        · simp [h, show j - 1 < k by omega]
        · simp [h, show ¬ j - 1 < k by omega]
      · have e1 : (if f k = true then 1#32 else 0#32).getLsbD j = false := by
          cases f k
          · simp
          · simp; omega
        rw [e1]
        simp [hj2]
        intro h
        omega
/-- Up to 32 bits side by side, not all 0, leave a state that is not 0. -/
theorem run_burst (g : Nat → Bool) (m w n : Nat) (hw : w ≤ 32) (hn : m + w ≤ n) (h0 : ∀ i, i < m ∨ m + w ≤ i → g i = false) (h : run 0 g n = 0) : ∀ i, g i = false := by
  have e : n = m + (w + (n - m - w)) := by omega
  rw [e, run_add, run_zero (fun i hi => h0 i (.inl hi)), run_add] at h
  have h1 := run_tail (fun i hi => h0 (m + (w + i)) (.inr (by omega))) h
  intro i
  by_cases hi : m ≤ i ∧ i < m + w
  · have h2 := run_word (fun i => g (m + i)) w hw (m + w - 1 - i)
    rw [h1] at h2
    simp at h2
    have := h2 (by omega)
    rwa [show m + (w - 1 - (m + w - 1 - i)) = i by omega] at this
  · exact h0 i (by omega)

/-- The i-th bit of a row of bytes, the highest of each first; 0 behind them. -/
def bit (l : List UInt8) (i : Nat) : Bool := match l[i / 8]? with
  | some x => x.toBitVec.getLsbD (7 - i % 8)
  | none => false
theorem bit_out (l : List UInt8) (i : Nat) (h : 8 * l.length ≤ i) : bit l i = false := by
  unfold bit
  rw [List.getElem?_eq_none (by omega)]
theorem bit_append (l r : List UInt8) (i : Nat) : bit (l ++ r) i = if i < 8 * l.length then bit l i else bit r (i - 8 * l.length) := by
  unfold bit
  by_cases h : i < 8 * l.length
  · rw [if_pos h, List.getElem?_append_left (by omega)]
  · rw [if_neg h, List.getElem?_append_right (by omega), show (i - 8 * l.length) / 8 = i / 8 - l.length by omega, show (i - 8 * l.length) % 8 = i % 8 by omega]
def ones : BitVec 32 := 0xffffffff#32
/-- The sum. -/
def sumB (l : List UInt8) : BitVec 32 := run ones (bit l) (8 * l.length + 32)
/-- A word's four bytes, the highest first. -/
def w4 (x : BitVec 32) : List UInt8 := [⟨(x >>> 24).setWidth 8⟩, ⟨(x >>> 16).setWidth 8⟩, ⟨(x >>> 8).setWidth 8⟩, ⟨x.setWidth 8⟩]
theorem w4_length (x : BitVec 32) : (w4 x).length = 4 := rfl
theorem bit_w4 (x : BitVec 32) (i : Nat) (h : i < 32) : bit (w4 x) i = x.getLsbD (31 - i) := by
  unfold bit w4
  have : i / 8 = 0 ∨ i / 8 = 1 ∨ i / 8 = 2 ∨ i / 8 = 3 := by omega
  rcases this with h1 | h1 | h1 | h1 <;> rw [h1] <;> simp [show 7 - i % 8 < 8 from by omega] <;> congr 1 <;> omega
theorem w4_inj {x y : BitVec 32} (h : w4 x = w4 y) : x = y := by
  apply BitVec.eq_of_getLsbD_eq
  intro i hi
  have h1 := bit_w4 x (31 - i) (by omega)
  have h2 := bit_w4 y (31 - i) (by omega)
  rw [h, h2, show 31 - (31 - i) = i by omega] at h1
  exact h1.symm
/-- The word of four bytes. -/
def wd (a b c d : UInt8) : BitVec 32 := (a.toBitVec.setWidth 32 <<< 24) ||| (b.toBitVec.setWidth 32 <<< 16) ||| (c.toBitVec.setWidth 32 <<< 8) ||| d.toBitVec.setWidth 32
theorem wd_bit (a b c d : UInt8) (i : Nat) (h : i < 32) : (wd a b c d).getLsbD (31 - i) = bit [a, b, c, d] i := by
  unfold bit wd
  have : i / 8 = 0 ∨ i / 8 = 1 ∨ i / 8 = 2 ∨ i / 8 = 3 := by omega
  have hb : ∀ (q : UInt8) (j : Nat), 8 ≤ j → q.toBitVec.getLsbD j = false := fun q j hj => BitVec.getLsbD_of_ge _ _ hj
  rcases this with h1 | h1 | h1 | h1 <;> rw [h1] <;> simp [BitVec.getLsbD_or]
  · rw [hb b _ (by omega), hb c _ (by omega), hb d _ (by omega)]
    simp [show ¬ 31 - i < 24 by omega, show 31 - i < 32 by omega, show 31 - i - 24 = 7 - i % 8 by omega]
    intro
    omega
  · rw [hb c _ (by omega), hb d _ (by omega)]
    simp [show 31 - i < 24 by omega, show ¬ 31 - i < 16 by omega, show 31 - i < 32 by omega, show 31 - i - 16 = 7 - i % 8 by omega]
    intro
    omega
  · rw [hb d _ (by omega)]
    simp [show 31 - i < 24 by omega, show 31 - i < 16 by omega, show ¬ 31 - i < 8 by omega, show 31 - i < 32 by omega, show 31 - i - 8 = 7 - i % 8 by omega]
    intro
    omega
  · simp [show 31 - i < 24 by omega, show 31 - i < 16 by omega, show 31 - i = 7 - i % 8 by omega, show 7 - i % 8 < 32 by omega, show 7 - i % 8 < 24 by omega, show 7 - i % 8 < 16 by omega, show 7 - i % 8 < 8 by omega]
theorem bits_eq {l r : List UInt8} (hl : l.length = r.length) (h : ∀ i, i < 8 * l.length → bit l i = bit r i) : l = r := by
  apply List.ext_getElem hl
  intro j h1 h2
  rw [← UInt8.toBitVec_inj]
  apply BitVec.eq_of_getLsbD_eq
  intro i hi
  have := h (8 * j + (7 - i)) (by omega)
  unfold bit at this
  rw [show (8 * j + (7 - i)) / 8 = j by omega, List.getElem?_eq_getElem h1, List.getElem?_eq_getElem h2] at this
  simpa [show 7 - (8 * j + (7 - i)) % 8 = i by omega, show 7 - (7 - i) % 8 = i by omega] using this
theorem w4_wd (a b c d : UInt8) : w4 (wd a b c d) = [a, b, c, d] := by
  refine bits_eq rfl fun i hi => ?_
  rw [w4_length] at hi
  rw [bit_w4 _ i hi, wd_bit a b c d i hi]

/-- The state behind a row's bits, but no noughts: 0 just if its last four bytes are the sum of those ahead. -/
def left (l : List UInt8) : BitVec 32 := run ones (bit l) (8 * l.length)
theorem left_sum (l : List UInt8) (x : BitVec 32) : left (l ++ w4 x) = sumB l ^^^ x := by
  unfold left sumB
  rw [List.length_append, w4_length, Nat.mul_add]
  have h1 : ∀ i, i < 8 * l.length + 8 * 4 → bit (l ++ w4 x) i = (bit l i ^^ (decide (8 * l.length ≤ i) && x.getLsbD (31 - (i - 8 * l.length)))) := fun i hi => by
    rw [bit_append]
    by_cases h : i < 8 * l.length
    · rw [if_pos h]
      simp [show ¬ 8 * l.length ≤ i by omega]
    · rw [if_neg h, bit_out l i (by omega), bit_w4 _ _ (by omega)]
      simp [show 8 * l.length ≤ i by omega]
  rw [run_cong h1]
  have h2 := run_xor ones 0 (bit l) (fun i => decide (8 * l.length ≤ i) && x.getLsbD (31 - (i - 8 * l.length))) (8 * l.length + 8 * 4)
  rw [show ones ^^^ (0 : BitVec 32) = ones from BitVec.xor_zero] at h2
  rw [h2]
  congr 1
  rw [run_add, run_zero (fun i hi => by simp; omega)]
  apply BitVec.eq_of_getLsbD_eq
  intro j hj
  rw [run_word _ _ (by omega)]
  have e : decide (8 * l.length ≤ 8 * l.length + (8 * 4 - 1 - j)) = true := by simp
  have e2 : 31 - (8 * l.length + (8 * 4 - 1 - j) - 8 * l.length) = j := by omega
  have e3 : decide (j < 8 * 4) = true := by simp; omega
  simp only [e, e2, e3, Bool.true_and]
theorem left_zero (l : List UInt8) (x : BitVec 32) : left (l ++ w4 x) = 0 ↔ sumB l = x := by
  rw [left_sum]
  refine ⟨fun h => ?_, fun h => by rw [h, BitVec.xor_self]; rfl⟩
  have : sumB l = sumB l ^^^ x ^^^ x := by rw [BitVec.xor_assoc, BitVec.xor_self, BitVec.xor_zero]
  rw [this, h]
  exact BitVec.zero_xor
/-- Another row, that differs in up to 32 bits side by side: what is left differs, too, if a bit does. -/
theorem left_burst (l r : List UInt8) (g : Nat → Bool) (m w : Nat) (hl : r.length = l.length) (hw : w ≤ 32) (hn : m + w ≤ 8 * l.length) (h0 : ∀ i, i < m ∨ m + w ≤ i → g i = false) (h : ∀ i, i < 8 * l.length → bit r i = (bit l i ^^ g i)) :
    left r = left l ↔ ∀ i, g i = false := by
  unfold left
  rw [hl, run_cong h]
  have h2 := run_xor ones 0 (bit l) g (8 * l.length)
  rw [show ones ^^^ (0 : BitVec 32) = ones from BitVec.xor_zero] at h2
  rw [h2]
  constructor
  · intro h
    refine run_burst g m w (8 * l.length) hw hn h0 ?_
    have e : run 0 g (8 * l.length) = run ones (bit l) (8 * l.length) ^^^ (run ones (bit l) (8 * l.length) ^^^ run 0 g (8 * l.length)) := by rw [← BitVec.xor_assoc, BitVec.xor_self]; exact BitVec.zero_xor.symm
    rw [e, h, BitVec.xor_self]
    rfl
  · intro h
    rw [run_zero (fun i _ => h i)]
    exact BitVec.xor_zero
/-- Sums of three rows of as many bytes, put together. -/
theorem sumB_three (a b c d : List UInt8) (hb : b.length = a.length) (hc : c.length = a.length) (hd : d.length = a.length) (h : ∀ i, i < 8 * a.length → bit d i = (bit a i ^^ bit b i ^^ bit c i)) :
    sumB d = sumB a ^^^ sumB b ^^^ sumB c := by
  unfold sumB
  rw [hb, hc, hd]
  have h1 : ∀ i, i < 8 * a.length + 32 → bit d i = (bit a i ^^ bit b i ^^ bit c i) := fun i hi => by
    by_cases h2 : i < 8 * a.length
    · exact h i h2
    · rw [bit_out a i (by omega), bit_out b i (by omega), bit_out c i (by omega), bit_out d i (by omega)]
      rfl
  rw [run_cong h1, ← run_xor, ← run_xor]
  rfl
/-- One byte put together with another one. -/
theorem bit_set (l : List UInt8) (j : Nat) (hj : j < l.length) (y : UInt8) (i : Nat) : bit (l.set j (l[j] ^^^ y)) i = (bit l i ^^ (decide (i / 8 = j) && y.toBitVec.getLsbD (7 - i % 8))) := by
  unfold bit
  rw [List.getElem?_set]
  by_cases h : j = i / 8
  · subst h
    rw [if_pos rfl, if_pos hj, List.getElem?_eq_getElem hj]
    simp
  · rw [if_neg h]
    simp [show ¬ i / 8 = j by omega]
end Go.Proofs.Ythjfjlkkbdjgfaa
