/- Contracts of compass's small functions, and of the document's: rests, quarters, whether a float is whole, its size. -/
import Derived.Test.YtjljojnedaclgaaChecked
import Derived.Test.YtjljojnedaclgaaFlob
import Derived.Test.YtjljojnedaclgaaMem
import Derived.WalkKit
import Derived.WalkLawsBesides
import Derived.Laws.NewFold
import Derived.Laws.Externs
import Derived.Laws.BitsAllLaws
import Derived.BigQuiet
import Derived.Deep.QuietTactic
import Derived.Lib.Small
import Derived.Lib.Walk
import Derived.Lib.Hide
import Derived.Handy
set_option linter.unusedVariables false
set_option linter.unusedSimpArgs false
namespace Go.Proofs.Ytjljojnedaclgaa
open Go.RowKit
open Ieee (double)

/-- A number of Go's int. -/
def Num (n : Int) : Prop := -9223372036854775808 ≤ n ∧ n ≤ 9223372036854775807

theorem tmod_bd (n : Int) (m : Int) (hm : 0 < m) : -m < n.tmod m ∧ n.tmod m < m := by
  have h1 := Int.tmod_lt_of_pos n hm
  have h2 := Int.lt_tmod_of_pos n hm
  omega
theorem rest_eq (n : Int) (m : Int) : (n.tmod m + m) % m = n % m := by
  rw [Int.add_emod_right, Int.tmod_def, Int.sub_emod, Int.mul_emod_right, Int.sub_zero, Int.emod_emod]
theorem ret_i {a b : Int} (h : a = b) : Ending.returned (.int .i64 a) = .returned (.int .i64 b) := by rw [h]
theorem ret_b {a b : Bool} (h : a = b) : Ending.returned (.bool a) = .returned (.bool b) := by rw [h]

set_option maxHeartbeats 400000 in
theorem rest_places (n : Int) (w : World) (hn : Num n) : Calls Try.prog 30 #[.int .i64 n, .int .i64 65536] w fun e w' => e = .returned (.int .i64 (n % 65536)) ∧ w = w' := by
  unfold Num at hn
  have hb := tmod_bd n 65536 (by omega)
  go_enter Try.func30, Try.ntmps30
  go_wp2
  go_ret
  exact ⟨ret_i (rest_eq n 65536), rfl⟩
set_option maxHeartbeats 400000 in
theorem rest_sides (n : Int) (w : World) (hn : Num n) : Calls Try.prog 30 #[.int .i64 n, .int .i64 4] w fun e w' => e = .returned (.int .i64 (n % 4)) ∧ w = w' := by
  unfold Num at hn
  have hb := tmod_bd n 4 (by omega)
  go_enter Try.func30, Try.ntmps30
  go_wp2
  go_ret
  exact ⟨ret_i (rest_eq n 4), rfl⟩
set_option maxHeartbeats 400000 in
theorem place_any (n : Int) (w : World) (hn : Num n) : Calls Try.prog 16 #[.int .i64 n] w fun e w' => e = .returned (.int .i64 (n % 65536)) ∧ w = w' := by
  go_enter Try.func16, Try.ntmps16
  go_wp2_with (go_at_call 30; refine (rest_places n _ hn).mono ?_; rintro e w' ⟨rfl, rfl⟩)
  go_ret
  exact ⟨rfl, rfl⟩
set_option maxHeartbeats 400000 in
theorem place_ref (n : Int) (w : World) (hn : Num n) : Calls Try.prog 17 #[.int .i64 n] w fun e w' => e = .returned (.int .i64 (n % 65536)) ∧ w = w' := by
  unfold Num at hn
  have hb := tmod_bd n 65536 (by omega)
  go_enter Try.func17, Try.ntmps17
  go_wp2
  go_ret
  exact ⟨ret_i (rest_eq n 65536), rfl⟩

/-- Which quarter. -/
def quB (p : Int) : Int := if 0 ≤ p ∧ p < 65536 then p / 16384 else -1
theorem quB_in {p : Int} (h : 0 ≤ p) (h2 : p < 65536) : quB p = p / 16384 := if_pos ⟨h, h2⟩
theorem quB_out {p : Int} (h : p < 0 ∨ 65536 ≤ p) : quB p = -1 := if_neg (by omega)

set_option maxHeartbeats 400000 in
theorem quarter_any (p : Int) (w : World) (hp : Num p) : Calls Try.prog 18 #[.int .i64 p] w fun e w' => e = .returned (.int .i64 (quB p)) ∧ w = w' := by
  by_cases h : 0 ≤ p ∧ p < 65536
  · have H := Lib.hid (quB_in h.1 h.2)
    have hm : (p == p % 65536) = true := by simp; omega
    have hm2 : (p != p % 65536) = false := by simp; omega
    obtain ⟨h1, h2⟩ := h
    go_enter Try.func18, Try.ntmps18
    go_wp2_with fail
    refine wp_scope_fwd ?_
    go_wp2_with (go_at_call 16; refine (place_any p _ hp).mono ?_; rintro e w' ⟨rfl, rfl⟩)
    refine fwd_ret ?_
    go_ret
    exact ⟨ret_i (by rw [H.out]), rfl⟩
  · have H := Lib.hid (quB_out (p := p) (by omega))
    have hm : (p == p % 65536) = false := by simp; omega
    have hm2 : (p != p % 65536) = true := by simp; omega
    clear h
    go_enter Try.func18, Try.ntmps18
    go_wp2_with fail
    refine wp_scope_fwd ?_
    go_wp2_with (go_at_call 16; refine (place_any p _ hp).mono ?_; rintro e w' ⟨rfl, rfl⟩)
    go_step3
    refine fwd_goto _ rfl ?_
    go_wp2
    refine nog_ret ?_
    go_ret
    exact ⟨ret_i (by rw [H.out]), rfl⟩
theorem fine_any (p : Int) (w : World) : Calls Try.prog 24 #[.int .i64 p] w fun e w' => e = .returned (.bool (decide (0 ≤ p ∧ p < 65536))) ∧ w = w' := by
  by_cases h : 0 ≤ p
  · go_enter Try.func24, Try.ntmps24
    go_wp2
    all_goals (go_ret; exact ⟨ret_b (by simp [h]), rfl⟩)
  · have h2 : p < 0 := by omega
    go_enter Try.func24, Try.ntmps24
    go_wp2
    all_goals (go_ret; exact ⟨ret_b (by simp; omega), rfl⟩)
theorem quarter_ref (p : Int) (w : World) (hp : Num p) : Calls Try.prog 19 #[.int .i64 p] w fun e w' => e = .returned (.int .i64 (quB p)) ∧ w = w' := by
  by_cases h : 0 ≤ p ∧ p < 65536
  · have H := Lib.hid (quB_in h.1 h.2)
    have hf := decide_eq_true h
    obtain ⟨h1, h2⟩ := h
    go_enter Try.func19, Try.ntmps19
    go_wp2_with (go_at_call 24; refine (fine_any p _).mono ?_; rw [hf]; rintro e w' ⟨rfl, rfl⟩)
    go_ret
    exact ⟨ret_i (by rw [H.out]), rfl⟩
  · have H := Lib.hid (quB_out (p := p) (by omega))
    have hf := decide_eq_false h
    clear h
    go_enter Try.func19, Try.ntmps19
    go_wp2_with (go_at_call 24; refine (fine_any p _).mono ?_; rw [hf]; rintro e w' ⟨rfl, rfl⟩)
    go_ret
    exact ⟨ret_i (by rw [H.out]), rfl⟩

/-- The words of the two parts that are told of a place of the first quarter. -/
theorem floatOfInt_wh (n : Int) (h : n.natAbs < 9007199254740992) : Wh (floatOfInt .f64 n) n := floatOf n h
set_option maxHeartbeats 400000 in
theorem inFirst_any (p : Int) (w : World) (h0 : 0 ≤ p) (h1 : p ≤ 16384) : Calls Try.prog 23 #[.int .i64 p] w fun e w' => (∃ x y, e = .returned (.complex .f64 x y) ∧ Wh x (16384 - p) ∧ Wh y p) ∧ w = w' := by
  have h2 := floatOfInt_wh (16384 - p) (by omega)
  have h3 := floatOfInt_wh p (by omega)
  generalize hx : floatOfInt .f64 (16384 - p) = x at h2
  generalize hy : floatOfInt .f64 p = y at h3
  go_enter Try.func23, Try.ntmps23
  go_wp2
  go_ret
  exact ⟨⟨_, _, rfl, h2, h3⟩, rfl⟩

/-- The bits of a float, without its sign. -/
theorem abs_bits (b : Nat) (h : b < 18446744073709551616) : bits .andNot .u64 (b : Int) 9223372036854775808 = ((b % 9223372036854775808 : Nat) : Int) := by
  have h1 := u64_andNot_nat b 9223372036854775808 h (by decide)
  have h2 := @Nat.and_two_pow_sub_one_eq_mod b 63
  rw [show (18446744073709551615 - 9223372036854775808 : Nat) = 2 ^ 63 - 1 by decide, h2] at h1
  exact h1
theorem ext35 (b : Nat) (w : World) : (callFunc 35 #[.float .f64 b]).run Try.prog w = .ok (.value (.int .u64 b)) w := by
  rw [run_callFunc_extern (fn := Try.f35) (e := Extern.MathFloatBits.float64bits) Try.func35 (by kernel_rfl) (by kernel_rfl) (by kernel_rfl) (by kernel_rfl)]
  rfl
theorem ext34 (n : Int) (w : World) : (callFunc 34 #[.int .u64 n]).run Try.prog w = .ok (.value (.float .f64 n.toNat)) w := by
  rw [run_callFunc_extern (fn := Try.f34) (e := Extern.MathFloatBits.float64frombits) Try.func34 (by kernel_rfl) (by kernel_rfl) (by kernel_rfl) (by kernel_rfl)]
  rfl
set_option maxHeartbeats 400000 in
theorem abs_any (b : Nat) (w : World) (h : b < 18446744073709551616) : Calls Try.prog 29 #[.float .f64 b] w fun e w' => e = .returned (.float .f64 (b % 9223372036854775808)) ∧ w = w' := by
  have h1 := ext35 b
  have h2 : ∀ w : World, (callFunc 34 #[.int .u64 ((b : Int) % 9223372036854775808)]).run Try.prog w = .ok (.value (.float .f64 (b % 9223372036854775808))) w := fun w => by
    rw [ext34, show ((b : Int) % 9223372036854775808).toNat = b % 9223372036854775808 by omega]
  have h3 : bits .andNot .u64 (b : Int) 9223372036854775808 = (b : Int) % 9223372036854775808 := by rw [abs_bits b h]; omega
  clear h
  go_enter Try.func29, Try.ntmps29
  go_wp2
  go_ret
  exact ⟨rfl, rfl⟩

/-- 'math.Trunc': of a number, that number cut; of none, none. -/
theorem ext36_num (b : Nat) (hb : ∀ s t, double.read b ≠ .nan s t) (w : World) : (callFunc 36 #[.float .f64 b]).run Try.prog w = .ok (.value (.float .f64 (double.write ((double.read b).integral .zero)))) w := by
  rw [run_callFunc_extern (fn := Try.f36) (e := Extern.MathFloor.toIntegral "math.archTrunc" .zero) Try.func36 (by kernel_rfl) (by kernel_rfl) (by kernel_rfl) (by kernel_rfl)]
  unfold Extern.MathFloor.toIntegral
  show (Sem.run _ (match double.read b with | .nan s t => _ | d => _) w).andThen _ = _
  cases h : double.read b with
  | number s m e => rfl
  | infinity s => rfl
  | nan s t => exact absurd h (hb s t)

end Go.Proofs.Ytjljojnedaclgaa
