/- Contracts of mix's functions of places, and of the document's own: for any number, any byte. -/
import Derived.Test.YthjdgopmcmpdeaaChecked
import Derived.Test.YthjdgopmcmpdeaaMem
import Derived.WalkKit
import Derived.WalkLawsBesides
import Derived.Laws.NewFold
import Derived.BigQuiet
import Derived.Deep.QuietTactic
import Derived.Lib.Small
import Derived.Lib.Walk
import Derived.Lib.Hide
import Derived.Handy
set_option linter.unusedVariables false
set_option linter.unusedSimpArgs false
namespace Go.Proofs.Ythjdgopmcmpdeaa
open Go.RowKit

/-- A number of Go's int. -/
def Num (n : Int) : Prop := -9223372036854775808 ≤ n ∧ n ≤ 9223372036854775807
theorem tmod_bd (n : Int) (m : Int) (hm : 0 < m) : -m < n.tmod m ∧ n.tmod m < m := by
  have h1 := Int.tmod_lt_of_pos n hm
  have h2 := Int.lt_tmod_of_pos n hm
  omega
theorem rest_eq (n : Int) (m : Int) : (n.tmod m + m) % m = n % m := by
  rw [Int.add_emod_right, Int.tmod_def, Int.sub_emod, Int.mul_emod_right, Int.sub_zero, Int.emod_emod]
theorem ret_i {a b : Int} (h : a = b) : Ending.returned (.int .i64 a) = .returned (.int .i64 b) := by rw [h]
theorem ret_b {a b : Bool} (h : a = b) : Ending.returned (.bool a) = .returned (.bool b) := by rw [h]

/-- A place; the one behind a byte; the one ahead of it. -/
def pl (n : Int) : Int := n % 65536
def nx (a : Int) (b : Nat) : Int := (40503 * (a % 65536) + b + 1) % 65536
def bf (a : Int) (b : Nat) : Int := (30599 * (a % 65536 - b - 1)) % 65536
theorem pl_bd (n : Int) : 0 ≤ pl n ∧ pl n < 65536 := by unfold pl; omega
theorem nx_bd (a : Int) (b : Nat) : 0 ≤ nx a b ∧ nx a b < 65536 := by unfold nx; omega
theorem bf_bd (a : Int) (b : Nat) : 0 ≤ bf a b ∧ bf a b < 65536 := by unfold bf; omega
theorem num_pl {p : Int} (h : 0 ≤ p ∧ p < 65536) : Num p := ⟨by omega, by omega⟩
theorem pl_num (n : Int) : Num (pl n) := num_pl (pl_bd n)
theorem pl_pl (n : Int) : pl (pl n) = pl n := by unfold pl; omega
theorem pl_of {p : Int} (h : 0 ≤ p ∧ p < 65536) : pl p = p := by unfold pl; omega
theorem nx_pl (a : Int) (b : Nat) : nx (pl a) b = nx a b := by unfold nx pl; omega
theorem bf_nx (a : Int) (b : Nat) : bf (nx a b) b = pl a := by unfold bf nx pl; omega
theorem nx_bf (a : Int) (b : Nat) : nx (bf a b) b = pl a := by unfold bf nx pl; omega
theorem nx_inj {a c : Int} {b : Nat} : nx a b = nx c b ↔ pl a = pl c := by
  constructor
  · intro h
    rw [← bf_nx a b, ← bf_nx c b, h]
  · intro h
    rw [← nx_pl a, ← nx_pl c, h]
theorem nx_byte {a : Int} {b c : Nat} (hb : b < 256) (hc : c < 256) : nx a b = nx a c ↔ b = c := by unfold nx; omega
theorem bf_byte {a : Int} {b c : Nat} (hb : b < 256) (hc : c < 256) : bf a b = bf a c ↔ b = c := by
  refine ⟨fun h => ?_, fun h => by rw [h]⟩
  have h1 := nx_bf a b
  rw [h, ← nx_bf a c] at h1
  exact (nx_byte hb hc).1 h1
theorem nx_more (a : Int) (b : Nat) : nx a (b + 1) = (nx a b + 1) % 65536 := by unfold nx; omega
theorem nx_eq (a : Int) (b : Nat) : pl (40503 * pl a + b + 1) = nx a b := by unfold nx pl; omega
theorem bf_eq (a : Int) (b : Nat) : pl (30599 * (pl a - b - 1)) = bf a b := by unfold bf pl; omega
theorem bf_ref (a : Int) (b : Nat) : (pl (pl a - b - 1) * 30599) % 65536 = bf a b := by unfold bf pl; omega

set_option maxRecDepth 100000 in
set_option maxHeartbeats 1000000 in
theorem rest_any (n : Int) (w : World) (hn : Num n) : Calls Try.prog 24 #[.int .i64 n, .int .i64 65536] w fun e w' => e = .returned (.int .i64 (pl n)) ∧ w = w' := by
  unfold Num at hn
  have hb := tmod_bd n 65536 (by omega)
  go_enter Try.func24, Try.ntmps24
  go_wp2
  go_ret
  exact ⟨ret_i (rest_eq n 65536), rfl⟩
set_option maxRecDepth 100000 in
set_option maxHeartbeats 1000000 in
theorem place_any (n : Int) (w : World) (hn : Num n) : Calls Try.prog 20 #[.int .i64 n] w fun e w' => e = .returned (.int .i64 (pl n)) ∧ w = w' := by
  go_enter Try.func20, Try.ntmps20
  go_wp2_with (go_at_call 24; refine (rest_any n _ hn).mono ?_; rintro e w' ⟨rfl, rfl⟩)
  go_ret
  exact ⟨rfl, rfl⟩
set_option maxRecDepth 100000 in
set_option maxHeartbeats 1000000 in
theorem place_ref (n : Int) (w : World) (hn : Num n) : Calls Try.prog 21 #[.int .i64 n] w fun e w' => e = .returned (.int .i64 (pl n)) ∧ w = w' := by
  unfold Num at hn
  have hb := tmod_bd n 65536 (by omega)
  go_enter Try.func21, Try.ntmps21
  go_wp2
  go_ret
  exact ⟨ret_i (rest_eq n 65536), rfl⟩
set_option maxRecDepth 100000 in
set_option maxHeartbeats 1000000 in
theorem next_any (a : Int) (b : Nat) (w : World) (ha : Num a) (hb : b < 256) : Calls Try.prog 13 #[.int .i64 a, .int .u8 b] w fun e w' => e = .returned (.int .i64 (nx a b)) ∧ w = w' := by
  have h1 := fun w => place_any a w ha
  have k1 := pl_bd a
  have h2 := fun w => place_any (40503 * pl a + b + 1) w ⟨by omega, by omega⟩
  rw [nx_eq] at h2
  generalize pl a = p at *
  clear ha
  go_enter Try.func13, Try.ntmps13
  go_wp2_with fail
  refine (h1 _).mono ?_; rintro e w' ⟨rfl, rfl⟩
  go_wp2_with fail
  refine (h2 _).mono ?_; rintro e w' ⟨rfl, rfl⟩
  go_wp2
  go_ret
  exact ⟨rfl, rfl⟩
set_option maxRecDepth 100000 in
set_option maxHeartbeats 1000000 in
theorem next_ref (a : Int) (b : Nat) (w : World) (ha : Num a) (hb : b < 256) : Calls Try.prog 14 #[.int .i64 a, .int .u8 b] w fun e w' => e = .returned (.int .i64 (nx a b)) ∧ w = w' := by
  have h1 := fun w => place_ref a w ha
  have k1 := pl_bd a
  have h2 : (pl a * 40503 + b + 1) % 65536 = nx a b := by unfold nx pl; omega
  generalize pl a = p at *
  clear ha
  go_enter Try.func14, Try.ntmps14
  go_wp2_with fail
  refine (h1 _).mono ?_; rintro e w' ⟨rfl, rfl⟩
  go_wp2
  go_ret
  exact ⟨ret_i h2, rfl⟩
set_option maxRecDepth 100000 in
set_option maxHeartbeats 1000000 in
theorem before_any (a : Int) (b : Nat) (w : World) (ha : Num a) (hb : b < 256) : Calls Try.prog 15 #[.int .i64 a, .int .u8 b] w fun e w' => e = .returned (.int .i64 (bf a b)) ∧ w = w' := by
  have h1 := fun w => place_any a w ha
  have k1 := pl_bd a
  have h2 := fun w => place_any (30599 * (pl a - b - 1)) w ⟨by omega, by omega⟩
  rw [bf_eq] at h2
  generalize pl a = p at *
  clear ha
  go_enter Try.func15, Try.ntmps15
  go_wp2_with fail
  refine (h1 _).mono ?_; rintro e w' ⟨rfl, rfl⟩
  go_wp2_with fail
  refine (h2 _).mono ?_; rintro e w' ⟨rfl, rfl⟩
  go_wp2
  go_ret
  exact ⟨rfl, rfl⟩

/-- No odd number below it takes the factor back. -/
theorem no_back : ∀ j : Nat, j < 15299 → (((1 : Int) + 2 * j) * 40503 % 65536 == 1) = false := by
  intro j hj
  rw [beq_eq_false_iff_ne]
  intro h
  have h2 : ((1 : Int) + 2 * j) * 40503 * 30599 % 65536 = 30599 % 65536 := by omega
  omega
set_option maxRecDepth 100000 in
set_option maxHeartbeats 1000000 in
theorem back_any (w : World) : Calls Try.prog 22 #[] w fun e w' => e = .returned (.int .i64 30599) ∧ w = w' := by
  go_enter Try.func22, Try.ntmps22
  go_wp2
  go_loop [1] (fun i => ∃ j : Nat, j ≤ 15299 ∧ i = .int .i64 (1 + 2 * j)) (fun i => (30600 - intOf i).toNat)
  case atStart => exact ⟨0, by omega, rfl⟩
  case round =>
    obtain ⟨j, hj, hi⟩ := hrel
    obtain ⟨x, hx⟩ : ∃ x : Int, (1 : Int) + 2 * j = x := ⟨_, rfl⟩
    have hn := no_back j
    rw [hx] at hi hn
    subst hi
    have h2 : 0 ≤ x := by omega
    have h3 : x < 65536 := by omega
    have HX := Lib.hid hx
    have HJ := Lib.hid hj
    clear hx hj
    by_cases hlt : j < 15299
    · have h1 := hn hlt
      have HL := Lib.hid hlt
      clear hn hlt
      go_wp2
      go_round
      case rel => exact ⟨j + 1, by have := HL.out; omega, by have := HX.out; go_num; try omega⟩
      case measure => have := HX.out; have := HL.out; simp [intOf]; omega
    · have hj2 : x = 30599 := by have := HX.out; have := HJ.out; omega
      have h1 : (x * 40503 % 65536 == 1) = true := by rw [beq_iff_eq]; omega
      have HX2 := Lib.hid hj2
      clear hn hlt hj2
      go_wp2
      go_ret
      exact ⟨ret_i HX2.out, rfl⟩
set_option maxRecDepth 100000 in
set_option maxHeartbeats 1000000 in
theorem before_ref (a : Int) (b : Nat) (w : World) (ha : Num a) (hb : b < 256) : Calls Try.prog 16 #[.int .i64 a, .int .u8 b] w fun e w' => e = .returned (.int .i64 (bf a b)) ∧ w = w' := by
  have h1 := fun w => place_ref a w ha
  have k1 := pl_bd a
  have h2 := fun w => place_ref (pl a - b - 1) w ⟨by omega, by omega⟩
  have k2 := pl_bd (pl a - b - 1)
  have h3 := bf_ref a b
  generalize pl (pl a - b - 1) = q at *
  generalize pl a = p at *
  clear ha
  go_enter Try.func16, Try.ntmps16
  go_wp2_with fail
  refine (h1 _).mono ?_; rintro e w' ⟨rfl, rfl⟩
  go_wp2_with fail
  refine (h2 _).mono ?_; rintro e w' ⟨rfl, rfl⟩
  go_wp2_with fail
  refine (back_any _).mono ?_; rintro e w' ⟨rfl, rfl⟩
  go_wp2
  go_ret
  exact ⟨ret_i h3, rfl⟩
end Go.Proofs.Ythjdgopmcmpdeaa
