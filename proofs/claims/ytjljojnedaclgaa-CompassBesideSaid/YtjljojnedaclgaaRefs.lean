/- The document's own points, places, turned ones: for any arguments. -/
import Derived.Test.YtjljojnedaclgaaRef
set_option linter.unusedVariables false
set_option linter.unusedSimpArgs false
namespace Go.Proofs.Ytjljojnedaclgaa
open Go.RowKit Go.Shelf
open Ieee (double)

theorem unary_neg_float (k : FloatKind) (b : Nat) : Op.unary .neg (.float k b) = pure (.float k (Op.negFloat k b)) := rfl
theorem unary_neg_complex (k : FloatKind) (a b : Nat) : Op.unary .neg (.complex k a b) = pure (.complex k (Op.negFloat k a) (Op.negFloat k b)) := rfl
attribute [local go_sem] unary_neg_float unary_neg_complex
theorem pt_step {x y : Nat} {p : Int} (h : Pt x y p) : Pt (Op.negFloat .f64 y) x ((p + 16384) % 65536) := by
  obtain ⟨h1, h2, h3⟩ := h
  have a := px_rot p h1 1 (by omega)
  have b := py_rot p h1 1 (by omega)
  simp only [rotX, rotY, Int.natCast_one, Int.mul_one] at a b
  exact ⟨⟨by omega, by omega⟩, by rw [a]; exact wh_neg h3, by rw [b]; exact h2⟩
theorem neg_lt {b : Nat} (h : b < 18446744073709551616) : Op.negFloat .f64 b < 18446744073709551616 := by
  rw [negFloat_eq]
  exact Nat.xor_lt_two_pow (n := 64) h (by decide)
theorem floatOf_lt (n : Int) : floatOfInt .f64 n < 18446744073709551616 := double.write_lt (.number (n < 0) n.natAbs 0)
theorem pt_back {x y : Nat} {p : Int} (h : Pt x y p) : Pt y (Op.negFloat .f64 x) ((p - 16384) % 65536) := by
  obtain ⟨h1, h2, h3⟩ := h
  have a := px_rot p h1 3 (by omega)
  have b := py_rot p h1 3 (by omega)
  rw [show (p + 16384 * ((3 : Nat) : Int)) % 65536 = (p - 16384) % 65536 by omega] at a b
  simp only [rotX, rotY] at a b
  exact ⟨⟨by omega, by omega⟩, by rw [a]; exact h3, by rw [b]; exact wh_neg h2⟩
theorem neg_neg (b : Nat) : Op.negFloat .f64 (Op.negFloat .f64 b) = b := by
  rw [negFloat_eq, negFloat_eq, Nat.xor_assoc, Nat.xor_self, Nat.xor_zero]
theorem pt_unback {x y : Nat} {p : Int} (h : Pt y (Op.negFloat .f64 x) p) : Pt x y ((p + 16384) % 65536) := by
  have := pt_step h
  rwa [neg_neg] at this

theorem ret_2 {a b : Int} {v : Value} (h : a = b) : Ending.returned (.tuple #[.int .i64 a, v]) = .returned (.tuple #[.int .i64 b, v]) := by rw [h]
set_option maxRecDepth 100000 in
set_option maxHeartbeats 1000000 in
theorem pointR_any (p : Int) (h : Place p) (w : World) :
    Calls Try.prog 25 #[.int .i64 p] w fun e w' => (∃ x y, e = .returned (.complex .f64 x y) ∧ Pt x y p ∧ Fits x y) ∧ w = w' := by
  obtain ⟨h0, h1⟩ := h
  have hx := floatOfInt_wh (16384 - p % 16384) (by omega)
  have hy := floatOfInt_wh (p % 16384) (by omega)
  have hf0 : Fits (floatOfInt .f64 (16384 - p % 16384)) (floatOfInt .f64 (p % 16384)) := ⟨floatOf_lt _, floatOf_lt _⟩
  generalize hgx : floatOfInt .f64 (16384 - p % 16384) = x0 at hx hf0
  generalize hgy : floatOfInt .f64 (p % 16384) = y0 at hy hf0
  have HF0 := Lib.hid hf0
  clear hf0
  have hp0 : Pt x0 y0 (p % 16384) := ⟨⟨by omega, by omega⟩, by unfold px; rw [if_pos (by omega)]; exact hx, by unfold py; rw [if_pos (by omega)]; exact hy⟩
  clear hx hy
  go_enter Try.func25, Try.ntmps25
  go_wp2
  go_loop [3, 4] (fun z k => ∃ (j : Nat) (x y : Nat), (j : Int) ≤ p / 16384 ∧ k = .int .i64 j ∧ z = .complex .f64 x y ∧ Pt x y (p % 16384 + 16384 * j) ∧ Fits x y) (fun _ k => (4 - intOf k).toNat)
  case atStart => exact ⟨0, x0, y0, by omega, rfl, rfl, by simpa using hp0, HF0.out⟩
  case round =>
    obtain ⟨j, x, y, hj, rfl, rfl, hpt, hfit⟩ := hrel
    have HP := Lib.hid hpt
    have HF := Lib.hid hfit
    clear hpt hfit
    by_cases hlt : (j : Int) < p / 16384
    · go_wp2
      go_round
      case rel => exact ⟨j + 1, _, _, by omega, by go_num, rfl, by have := pt_step HP.out; rwa [show (p % 16384 + 16384 * (j : Int) + 16384) % 65536 = p % 16384 + 16384 * ((j + 1 : Nat) : Int) by omega] at this, neg_lt HF.out.2, HF.out.1⟩
      case measure => simp [intOf]; omega
    · go_wp2
      go_ret
      exact ⟨⟨x, y, rfl, by have := HP.out; rwa [show p % 16384 + 16384 * (j : Int) = p by omega] at this, HF.out⟩, rfl⟩

set_option maxHeartbeats 400000 in
theorem AtR_yes (p : Int) (h : Place p) (w : World) :
    Calls Try.prog 9 #[.int .i64 p] w fun e w' => (∃ x y, e = .returned (.tuple #[.complex .f64 x y, .int .i64 0]) ∧ Pt x y p ∧ Fits x y) ∧ w = w' := by
  have c1 := fun w => fine_any p w
  rw [decide_eq_true (show 0 ≤ p ∧ p < 65536 from h)] at c1
  have c2 := fun w => pointR_any p h w
  clear h
  go_enter Try.func9, Try.ntmps9
  go_wp2_with fail
  refine (c1 _).mono ?_; rintro e w' ⟨rfl, rfl⟩
  go_wp2_with fail
  refine (c2 _).mono ?_; rintro e w' ⟨⟨x, y, rfl, h⟩, rfl⟩
  have H := Lib.hid h
  clear h
  go_wp2
  go_ret2
  exact ⟨⟨_, _, rfl, H.out⟩, rfl⟩
set_option maxHeartbeats 400000 in
theorem AtR_no (p : Int) (h : ¬ Place p) (w : World) :
    Calls Try.prog 9 #[.int .i64 p] w fun e w' => e = .returned (.tuple #[.complex .f64 0 0, .int .i64 2]) ∧ w = w' := by
  have c1 := fun w => fine_any p w
  rw [decide_eq_false (show ¬ (0 ≤ p ∧ p < 65536) from h)] at c1
  clear h
  go_enter Try.func9, Try.ntmps9
  go_wp2_with fail
  refine (c1 _).mono ?_; rintro e w' ⟨rfl, rfl⟩
  go_wp2
  go_ret2
  exact ⟨rfl, rfl⟩

theorem whIn_yes {x : Nat} {n a b : Int} (h : Wh x n) (h1 : a ≤ n) (h2 : n ≤ b) : true = true ↔ WhIn x a b := ⟨fun _ => ⟨n, h, h1, h2⟩, fun _ => rfl⟩
theorem whIn_no {x : Nat} {a b : Int} (h : ¬ WhIn x a b) : false = true ↔ WhIn x a b := ⟨fun e => (by cases e), fun e => absurd e h⟩
theorem whIn_not {x : Nat} {n a b : Int} (h : Wh x n) (h1 : n < a ∨ b < n) : ¬ WhIn x a b := fun ⟨m, k, k1, k2⟩ => by have := wh_inj h k; omega

set_option maxRecDepth 100000 in
set_option maxHeartbeats 2000000 in
theorem OfR_yes (x y : Nat) (p : Int) (h : Pt x y p) (w : World) :
    Calls Try.prog 11 #[.complex .f64 x y] w fun e w' => e = .returned (.tuple #[.int .i64 p, .int .i64 0]) ∧ w = w' := by
  have hp : 0 ≤ p ∧ p < 65536 := h.1
  have HW := Lib.hid h
  clear h
  go_enter Try.func11, Try.ntmps11
  go_wp2
  go_loop [0, 4] (fun z k => ∃ (j : Nat) (x y : Nat), 16384 * (j : Int) ≤ p ∧ k = .int .i64 j ∧ z = .complex .f64 x y ∧ Pt x y (p - 16384 * j)) (fun _ k => (4 - intOf k).toNat)
  case atStart => exact ⟨0, x, y, by omega, rfl, rfl, by simpa using HW.out⟩
  case round =>
    obtain ⟨j, x, y, hj, rfl, rfl, hpt⟩ := hrel
    have hj4 : (j : Int) < 4 := by omega
    have HP := Lib.hid hpt
    obtain ⟨_, hx, hy⟩ := hpt
    by_cases hin : p - 16384 * (j : Int) < 16384
    · have ex : px (p - 16384 * (j : Int)) = 16384 - (p - 16384 * (j : Int)) := by unfold px; rw [if_pos (by omega)]
      have ey : py (p - 16384 * (j : Int)) = p - 16384 * (j : Int) := by unfold py; rw [if_pos (by omega)]
      rw [ex] at hx
      rw [ey] at hy
      have c1 := fun w => wholeR_any x 1 16384 (by decide) (by decide) true (whIn_yes hx (by omega) (by omega)) w
      have c2 := fun w => wholeR_any y 0 16383 (by decide) (by decide) true (whIn_yes hy (by omega) (by omega)) w
      have k1 := conv_int hx ⟨by omega, by omega⟩
      have k2 := conv_int hy ⟨by omega, by omega⟩
      have hb1 : 0 ≤ p - 16384 * (j : Int) := by omega
      clear hx hy ex ey
      generalize hm : p - 16384 * (j : Int) = m at *
      have hs : ((16384 - m + m : Int) == 16384) = true := by simp
      go_wp2_with fail
      refine (c1 _).mono ?_; rintro e w' ⟨rfl, rfl⟩
      go_wp2_with fail
      refine (c2 _).mono ?_; rintro e w' ⟨rfl, rfl⟩
      go_wp2
      go_ret2
      exact ⟨ret_2 (by omega), rfl⟩
    · have hnext := pt_back HP.out
      rw [show (p - 16384 * (j : Int) - 16384) % 65536 = p - 16384 * ((j + 1 : Nat) : Int) by omega] at hnext
      have HX := Lib.hid hnext
      clear hnext
      by_cases hp1 : 1 ≤ px (p - 16384 * (j : Int))
      · have c1 := fun w => wholeR_any x 1 16384 (by decide) (by decide) true (whIn_yes hx hp1 (by unfold px; split <;> omega)) w
        have hneg : py (p - 16384 * (j : Int)) < 0 := by
          unfold px at hp1; unfold py
          split at hp1 <;> split <;> (try split) <;> omega
        have c2 := fun w => wholeR_any y 0 16383 (by decide) (by decide) false (whIn_no (whIn_not hy (.inl hneg))) w
        clear hx hy hp1 hneg
        go_wp2_with fail
        refine (c1 _).mono ?_; rintro e w' ⟨rfl, rfl⟩
        go_wp2_with fail
        refine (c2 _).mono ?_; rintro e w' ⟨rfl, rfl⟩
        go_wp2
        go_round
        case rel => exact ⟨j + 1, _, _, by omega, by go_num, rfl, HX.out⟩
        case measure => simp [intOf]; omega
      · have c1 := fun w => wholeR_any x 1 16384 (by decide) (by decide) false (whIn_no (whIn_not hx (.inl (by omega)))) w
        clear hx hy hp1
        go_wp2_with fail
        refine (c1 _).mono ?_; rintro e w' ⟨rfl, rfl⟩
        go_wp2
        go_round
        case rel => exact ⟨j + 1, _, _, by omega, by go_num, rfl, HX.out⟩
        case measure => simp [intOf]; omega
set_option maxRecDepth 100000 in
set_option maxHeartbeats 2000000 in
theorem OfR_no (x y : Nat) (h : ¬ ∃ p, Pt x y p) (w : World) :
    Calls Try.prog 11 #[.complex .f64 x y] w fun e w' => e = .returned (.tuple #[.int .i64 0, .int .i64 2]) ∧ w = w' := by
  have HW := Lib.hid h
  clear h
  go_enter Try.func11, Try.ntmps11
  go_wp2
  go_loop [0, 4] (fun z k => ∃ (j : Nat) (x y : Nat), j ≤ 4 ∧ k = .int .i64 j ∧ z = .complex .f64 x y ∧ ¬ ∃ p, Pt x y p) (fun _ k => (4 - intOf k).toNat)
  case atStart => exact ⟨0, x, y, by omega, rfl, rfl, HW.out⟩
  case round =>
    obtain ⟨j, x, y, hj, rfl, rfl, hnp⟩ := hrel
    have HP := Lib.hid hnp
    clear hnp
    by_cases hlt : j < 4
    · have hnext : ¬ ∃ p, Pt y (Op.negFloat .f64 x) p := fun ⟨p, h⟩ => HP.out ⟨_, pt_unback h⟩
      have HX := Lib.hid hnext
      clear hnext
      by_cases g1 : WhIn x 1 16384
      · have c1 := fun w => wholeR_any x 1 16384 (by decide) (by decide) true ⟨fun _ => g1, fun _ => rfl⟩ w
        by_cases g2 : WhIn y 0 16383
        · have c2 := fun w => wholeR_any y 0 16383 (by decide) (by decide) true ⟨fun _ => g2, fun _ => rfl⟩ w
          obtain ⟨n, hn, hn1, hn2⟩ := g1
          obtain ⟨m, hm, hm1, hm2⟩ := g2
          have k1 := conv_int hn ⟨by omega, by omega⟩
          have k2 := conv_int hm ⟨by omega, by omega⟩
          have hne : n + m ≠ 16384 := fun e => HP.out ((pt_iff x y).2 ⟨n, m, hn, hm, by omega⟩)
          have hs : (n + m == 16384) = false := by simp; omega
          clear hn hm
          go_wp2_with fail
          refine (c1 _).mono ?_; rintro e w' ⟨rfl, rfl⟩
          go_wp2_with fail
          refine (c2 _).mono ?_; rintro e w' ⟨rfl, rfl⟩
          go_wp2
          go_round
          case rel => exact ⟨j + 1, _, _, by omega, by go_num, rfl, HX.out⟩
          case measure => simp [intOf]; omega
        · have c2 := fun w => wholeR_any y 0 16383 (by decide) (by decide) false (whIn_no g2) w
          clear g1 g2
          go_wp2_with fail
          refine (c1 _).mono ?_; rintro e w' ⟨rfl, rfl⟩
          go_wp2_with fail
          refine (c2 _).mono ?_; rintro e w' ⟨rfl, rfl⟩
          go_wp2
          go_round
          case rel => exact ⟨j + 1, _, _, by omega, by go_num, rfl, HX.out⟩
          case measure => simp [intOf]; omega
      · have c1 := fun w => wholeR_any x 1 16384 (by decide) (by decide) false (whIn_no g1) w
        clear g1
        go_wp2_with fail
        refine (c1 _).mono ?_; rintro e w' ⟨rfl, rfl⟩
        go_wp2
        go_round
        case rel => exact ⟨j + 1, _, _, by omega, by go_num, rfl, HX.out⟩
        case measure => simp [intOf]; omega
    · obtain rfl : j = 4 := by omega
      go_wp2
      go_ret2
      exact ⟨rfl, rfl⟩

set_option maxHeartbeats 400000 in
theorem RightR_yes (x y : Nat) (p : Int) (h : Pt x y p) (w : World) : Calls Try.prog 13 #[.complex .f64 x y] w fun e w' => e = .returned (.bool true) ∧ w = w' := by
  have c1 := fun w => OfR_yes x y p h w
  clear h
  go_enter Try.func13, Try.ntmps13
  go_wp2_with fail
  refine (c1 _).mono ?_; rintro e w' ⟨rfl, rfl⟩
  go_wp2
  go_ret
  exact ⟨rfl, rfl⟩
set_option maxHeartbeats 400000 in
theorem RightR_no (x y : Nat) (h : ¬ ∃ p, Pt x y p) (w : World) : Calls Try.prog 13 #[.complex .f64 x y] w fun e w' => e = .returned (.bool false) ∧ w = w' := by
  have c1 := fun w => OfR_no x y h w
  clear h
  go_enter Try.func13, Try.ntmps13
  go_wp2_with fail
  refine (c1 _).mono ?_; rintro e w' ⟨rfl, rfl⟩
  go_wp2
  go_ret
  exact ⟨rfl, rfl⟩
set_option maxHeartbeats 1000000 in
theorem TurnedR_yes (x y : Nat) (p on : Int) (h : Pt x y p) (hon : Num on) (w : World) :
    Calls Try.prog 15 #[.complex .f64 x y, .int .i64 on] w fun e w' => (∃ x' y', e = .returned (.complex .f64 x' y') ∧ Pt x' y' ((p + 16384 * on) % 65536) ∧ Fits x' y') ∧ w = w' := by
  have c1 := fun w => OfR_yes x y p h w
  have hp : 0 ≤ p ∧ p < 65536 := h.1
  have hb := tmod_bd on 4 (by omega)
  have hr := rest_eq on 4
  unfold Num at hon
  have hq1 : 0 ≤ (on.tmod 4 + 4) % 4 := by omega
  have hq2 : (on.tmod 4 + 4) % 4 ≤ 3 := by omega
  have he : (p + 16384 * (on.tmod 4 % 4)) % 65536 = (p + 16384 * on) % 65536 := by omega
  have c2 := fun w => place_ref (p + 16384 * (on.tmod 4 % 4)) w ⟨by omega, by omega⟩
  rw [he] at c2
  have c3 := fun w => pointR_any ((p + 16384 * on) % 65536) ⟨by omega, by omega⟩ w
  clear h he hr
  go_enter Try.func15, Try.ntmps15
  go_wp2_with fail
  refine (c1 _).mono ?_; rintro e w' ⟨rfl, rfl⟩
  go_wp2_with fail
  refine (c2 _).mono ?_; rintro e w' ⟨rfl, rfl⟩
  go_wp2_with fail
  refine (c3 _).mono ?_; rintro e w' ⟨⟨x', y', rfl, h⟩, rfl⟩
  have H := Lib.hid h
  clear h
  go_wp2
  go_ret
  exact ⟨⟨_, _, rfl, H.out⟩, rfl⟩
set_option maxHeartbeats 400000 in
theorem TurnedR_no (x y : Nat) (on : Int) (h : ¬ ∃ p, Pt x y p) (w : World) :
    Calls Try.prog 15 #[.complex .f64 x y, .int .i64 on] w fun e w' => e = .returned (.complex .f64 0 0) ∧ w = w' := by
  have c1 := fun w => OfR_no x y h w
  clear h
  go_enter Try.func15, Try.ntmps15
  go_wp2_with fail
  refine (c1 _).mono ?_; rintro e w' ⟨rfl, rfl⟩
  go_wp2
  go_ret
  exact ⟨rfl, rfl⟩
end Go.Proofs.Ytjljojnedaclgaa
