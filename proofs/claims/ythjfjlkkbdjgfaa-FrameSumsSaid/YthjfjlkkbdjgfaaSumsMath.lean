/- Three rows put together: plain lists. -/
import Derived.Test.YthjfjlkkbdjgfaaFrmMath
set_option linter.unusedVariables false
set_option linter.unusedSimpArgs false
namespace Go.Proofs.Ythjfjlkkbdjgfaa

/-- The first n bytes of three rows, put together. -/
def xr (a b c : List UInt8) : List UInt8 := List.zipWith (· ^^^ ·) (List.zipWith (· ^^^ ·) a b) c
theorem xr_length (a b c : List UInt8) (n : Nat) (ha : a.length = n) (hb : b.length = n) (hc : c.length = n) : (xr a b c).length = n := by
  unfold xr; rw [List.length_zipWith, List.length_zipWith]; omega
theorem xr_get (a b c : List UInt8) (j : Nat) (ha : j < a.length) (hb : j < b.length) (hc : j < c.length) (h : j < (xr a b c).length) : (xr a b c)[j] = a[j] ^^^ b[j] ^^^ c[j] := by
  simp [xr]
theorem xr_bit (a b c : List UInt8) (n : Nat) (ha : a.length = n) (hb : b.length = n) (hc : c.length = n) (i : Nat) (hi : i < 8 * n) : bit (xr a b c) i = (bit a i ^^ bit b i ^^ bit c i) := by
  have hx := xr_length a b c n ha hb hc
  unfold bit
  rw [List.getElem?_eq_getElem (show i / 8 < (xr a b c).length by omega), List.getElem?_eq_getElem (show i / 8 < a.length by omega), List.getElem?_eq_getElem (show i / 8 < b.length by omega), List.getElem?_eq_getElem (show i / 8 < c.length by omega)]
  dsimp only
  rw [xr_get a b c _ (by omega) (by omega) (by omega)]
  simp
theorem xr_sum (a b c : List UInt8) (n : Nat) (ha : a.length = n) (hb : b.length = n) (hc : c.length = n) : sumB (xr a b c) = sumB a ^^^ sumB b ^^^ sumB c :=
  sumB_three a b c _ (by omega) (by omega) (by rw [xr_length a b c n ha hb hc, ha]) fun i hi => xr_bit a b c n ha hb hc i (by omega)
/-- What stands in the row when the first j bytes are put together. -/
def dl (X : List UInt8) (n j : Nat) : List UInt8 := X.take j ++ List.replicate (n - j) 0
theorem dl_zero (X : List UInt8) (n : Nat) : dl X n 0 = List.replicate n 0 := by simp [dl]
theorem dl_all (X : List UInt8) (n : Nat) (h : X.length = n) : dl X n n = X := by simp [dl, ← h]
theorem dl_length (X : List UInt8) (n j : Nat) (h : X.length = n) (hj : j ≤ n) : (dl X n j).length = n := by simp [dl, h]; omega
theorem dl_set (X : List UInt8) (n j : Nat) (h : X.length = n) (hj : j < n) : (dl X n j).set j (X[j]'(by omega)) = dl X n (j + 1) := by
  unfold dl
  have hl : (X.take j).length = j := by rw [List.length_take]; omega
  rw [List.set_append_right _ _ (by omega), hl, Nat.sub_self, show n - j = (n - (j + 1)) + 1 by omega, List.replicate_succ, List.set_cons_zero, List.take_succ_eq_append_getElem (by omega), List.append_assoc]
  rfl
theorem dl_some (X : List UInt8) (n j : Nat) (h : X.length = n) (hj : j < n) (x : UInt8) (hx : X[j]? = some x) : (dl X n j).set j x = dl X n (j + 1) := by
  rw [← dl_set X n j h hj]
  rw [List.getElem?_eq_getElem (by omega)] at hx
  injection hx with hx
  rw [hx]
theorem xr_some (a b c : List UInt8) (j : Nat) (x y z : UInt8) (ha : a[j]? = some x) (hb : b[j]? = some y) (hc : c[j]? = some z) : (xr a b c)[j]? = some (x ^^^ y ^^^ z) := by
  unfold xr
  simp [List.getElem?_zipWith, ha, hb, hc]
end Go.Proofs.Ythjfjlkkbdjgfaa
