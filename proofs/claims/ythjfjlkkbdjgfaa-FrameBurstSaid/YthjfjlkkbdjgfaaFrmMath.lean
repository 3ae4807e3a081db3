/- The plain mathematics of frames: which rows of bytes are frames, and what becomes of one when bits are others. No program is named here. -/
import Derived.Test.YthjfjlkkbdjgfaaSumMath
set_option linter.unusedVariables false
set_option linter.unusedSimpArgs false
namespace Go.Proofs.Ythjfjlkkbdjgfaa

/-- What is summed of a payload's frame; the frame; the payload's place in a row. -/
def hd (p : List UInt8) : List UInt8 := 71 :: 1 :: UInt8.ofNat (p.length / 256) :: UInt8.ofNat p.length :: p
def frm (p : List UInt8) : List UInt8 := hd p ++ w4 (sumB (hd p))
def mid (b : List UInt8) : List UInt8 := (b.take (b.length - 4)).drop 4
theorem hd_length (p : List UInt8) : (hd p).length = p.length + 4 := rfl
theorem frm_length (p : List UInt8) : (frm p).length = p.length + 8 := by unfold frm; rw [List.length_append, hd_length, w4_length]
theorem mid_length (b : List UInt8) : (mid b).length = b.length - 4 - 4 := by unfold mid; rw [List.length_drop, List.length_take]; omega
theorem mid_frm (p : List UInt8) : mid (frm p) = p := by
  unfold mid
  rw [frm_length]
  unfold frm
  rw [List.take_append_of_le_length (by rw [hd_length]; omega), List.take_of_length_le (by rw [hd_length]; omega)]
  rfl
theorem frm_inj {p q : List UInt8} (h : frm p = frm q) : p = q := by rw [← mid_frm p, ← mid_frm q, h]
theorem left_frm (p : List UInt8) : left (frm p) = 0 := (left_zero _ _).2 rfl
/-- Is it a frame? -/
def isFr (b : List UInt8) : Prop := 8 ≤ b.length ∧ b.length ≤ 120 ∧ frm (mid b) = b
instance (b : List UInt8) : Decidable (isFr b) := by unfold isFr; infer_instance
theorem isFr_frm (p : List UInt8) (h : p.length ≤ 112) : isFr (frm p) := ⟨by rw [frm_length]; omega, by rw [frm_length]; omega, by rw [mid_frm]⟩
theorem frm_get3 (p : List UInt8) : (frm p)[3]? = some (UInt8.ofNat p.length) := rfl
/-- A frame's fourth byte tells how long it is. -/
theorem isFr_len {b : List UInt8} (h : isFr b) : b[3]? = some (UInt8.ofNat (b.length - 8)) := by
  have := frm_get3 (mid b)
  rw [h.2.2, mid_length] at this
  rw [this]
  congr 2
theorem byte_len {n m : Nat} (hn : n < 256) (hm : m < 256) (h : UInt8.ofNat n = UInt8.ofNat m) : n = m := by
  have := congrArg UInt8.toNat h
  simp at this
  omega
theorem frm_more (p : List UInt8) (hp : p.length ≤ 112) (x : UInt8) : ¬ isFr (frm p ++ [x]) := by
  intro h
  have h1 := isFr_len h
  rw [List.getElem?_append_left (by rw [frm_length]; omega), frm_get3, List.length_append, frm_length] at h1
  injection h1 with h1
  have := byte_len (by omega) (by simp; omega) h1
  simp at this
theorem frm_less (p : List UInt8) (hp : p.length ≤ 112) : ¬ isFr ((frm p).take (p.length + 7)) := by
  intro h
  have h0 := h.1
  have h1 := isFr_len h
  rw [List.length_take, frm_length] at h0
  rw [List.getElem?_take, if_pos (by omega), frm_get3, List.length_take, frm_length] at h1
  injection h1 with h1
  have := byte_len (by omega) (by omega) h1
  omega
/-- Four bytes ahead, four behind. -/
theorem isFr_parts {b : List UInt8} (h : 8 ≤ b.length) : ∃ a0 a1 a2 a3 x, b = a0 :: a1 :: a2 :: a3 :: (mid b ++ w4 x) := by
  have e : b = b.take 4 ++ (mid b ++ b.drop (b.length - 4)) := by
    unfold mid
    conv => lhs; rw [← List.take_append_drop (b.length - 4) b]
    rw [← List.append_assoc]
    congr 1
    conv => lhs; rw [← List.take_append_drop 4 (b.take (b.length - 4))]
    congr 1
    rw [List.take_take, Nat.min_eq_left (by omega)]
  have h4 : (b.take 4).length = 4 := by rw [List.length_take]; omega
  have h5 : (b.drop (b.length - 4)).length = 4 := by rw [List.length_drop]; omega
  generalize b.take 4 = l at *
  generalize b.drop (b.length - 4) = r at *
  match l, h4, r, h5 with
  | [a0, a1, a2, a3], _, [c0, c1, c2, c3], _ =>
    refine ⟨a0, a1, a2, a3, wd c0 c1 c2 c3, ?_⟩
    rw [w4_wd]
    exact e
/-- What a look at it must find. -/
theorem isFr_iff {b : List UInt8} (h : 8 ≤ b.length) : isFr b ↔ b.length ≤ 120 ∧ b[0]? = some 71 ∧ b[1]? = some 1 ∧ b[2]? = some 0 ∧ b[3]? = some (UInt8.ofNat (b.length - 8)) ∧ left b = 0 := by
  constructor
  · intro hf
    have h3 := isFr_len hf
    have hl := hf.2.1
    have hm := mid_length b
    obtain ⟨_, _, he⟩ := hf
    have h0 : (frm (mid b))[0]? = some 71 := rfl
    have h1 : (frm (mid b))[1]? = some 1 := rfl
    have h2 : (frm (mid b))[2]? = some (UInt8.ofNat ((mid b).length / 256)) := rfl
    have hz := left_frm (mid b)
    rw [show (mid b).length / 256 = 0 by omega] at h2
    rw [he] at h0 h1 h2 hz
    exact ⟨hl, h0, h1, h2, h3, hz⟩
  · rintro ⟨hl, h0, h1, h2, h3, hz⟩
    refine ⟨h, hl, ?_⟩
    have hm := mid_length b
    obtain ⟨a0, a1, a2, a3, x, e⟩ := isFr_parts h
    generalize mid b = p at *
    have hn : b.length - 8 = p.length := by rw [hm]; omega
    rw [hn] at h3
    subst e
    simp at h0 h1 h2 h3
    have he : hd p = a0 :: a1 :: a2 :: a3 :: p := by
      unfold hd
      rw [show p.length / 256 = 0 by omega, h0, h1, h2, h3]
      rfl
    have hs : sumB (hd p) = x := by
      rw [← left_zero, he]
      exact hz
    unfold frm
    rw [hs, he]
    rfl
/-- A frame with up to 32 bits side by side that may be others is one just if none is. -/
theorem isFr_burst {b c : List UInt8} (hb : isFr b) (g : Nat → Bool) (m w : Nat) (hl : c.length = b.length) (hw : w ≤ 32) (hn : m + w ≤ 8 * b.length) (h0 : ∀ i, i < m ∨ m + w ≤ i → g i = false) (h : ∀ i, i < 8 * b.length → bit c i = (bit b i ^^ g i)) :
    isFr c ↔ ∀ i, g i = false := by
  constructor
  · intro hc
    refine (left_burst b c g m w hl hw hn h0 h).1 ?_
    rw [((isFr_iff hc.1).1 hc).2.2.2.2.2, ((isFr_iff hb.1).1 hb).2.2.2.2.2]
  · intro hg
    have : c = b := bits_eq hl fun i hi => by rw [h i (by rw [← hl]; exact hi), hg i, Bool.xor_false]
    rw [this]
    exact hb
theorem flip_bit : ∀ r < 8, ∀ j < 8, (UInt8.ofNat (128 / 2 ^ r)).toBitVec.getLsbD (7 - j) = decide (j = r) := by decide
/-- One bit more is another one. -/
theorem bit_flip (l : List UInt8) (n : Nat) (hn : n / 8 < l.length) (i : Nat) : bit (l.set (n / 8) (l[n / 8] ^^^ UInt8.ofNat (128 / 2 ^ (n % 8)))) i = (bit l i ^^ decide (i = n)) := by
  rw [bit_set, flip_bit _ (by omega) _ (by omega)]
  congr 1
  by_cases h : i = n
  · subst h; simp
  · simp [h]; omega

/-- What is told of a row: the payload, the error. -/
def openE (b : List UInt8) : Int := if b.length < 8 then 11 else if isFr b then 0 else 12
def openP (b : List UInt8) : List UInt8 := if isFr b then mid b else []
def closeE (p : List UInt8) : Int := if 112 < p.length then 2 else 0
def closeB (p : List UInt8) : List UInt8 := if 112 < p.length then [] else frm p
end Go.Proofs.Ythjfjlkkbdjgfaa
