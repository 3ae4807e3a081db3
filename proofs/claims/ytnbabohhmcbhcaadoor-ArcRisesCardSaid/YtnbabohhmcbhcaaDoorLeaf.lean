/- Contracts of arc's functions of places, ways and who is between, and of the document's own: for any numbers. -/
import Derived.Test.YtnbabohhmcbhcaaDoorChecked
import Derived.Test.YtnbabohhmcbhcaaDoorMem
import Derived.WalkKit
import Derived.WalkLawsBesides
import Derived.Laws.NewFold
import Derived.BigQuiet
import Derived.Deep.QuietTactic
import Derived.Lib.Small
import Derived.Lib.Walk
import Derived.Lib.Hide
import Derived.Handy
set_option linter.unusedVariables false
set_option linter.unusedSimpArgs false
namespace Go.Proofs.YtnbabohhmcbhcaaDoor
open Go.RowKit

/-- A number of Go's int. -/
def Num (n : Int) : Prop := -9223372036854775808 ≤ n ∧ n ≤ 9223372036854775807
theorem num_small {n : Int} (h : -1000000 ≤ n) (k : n ≤ 1000000) : Num n := ⟨by omega, by omega⟩

theorem tmod_bd (n : Int) (m : Int) (hm : 0 < m) : -m < n.tmod m ∧ n.tmod m < m := by
  have h1 := Int.tmod_lt_of_pos n hm
  have h2 := Int.lt_tmod_of_pos n hm
  omega
theorem rest_eq (n : Int) (m : Int) : (n.tmod m + m) % m = n % m := by
  rw [Int.add_emod_right, Int.tmod_def, Int.sub_emod, Int.mul_emod_right, Int.sub_zero, Int.emod_emod]
theorem ret_i {a b : Int} (h : a = b) : Ending.returned (.int .i64 a) = .returned (.int .i64 b) := by rw [h]
theorem ret_b {a b : Bool} (h : a = b) : Ending.returned (.bool a) = .returned (.bool b) := by rw [h]

/-- A place; how far; once round, if it is one place; between; up to. -/
def pl (n : Int) : Int := n % 65536
def far (a b : Int) : Int := (b - a) % 65536
def rnd (a b : Int) : Int := if 0 < far a b then far a b else 65536
def inB (a x b : Int) : Bool := decide (0 < far a x ∧ far a x < rnd a b)
def upB (a x b : Int) : Bool := inB a x b || decide (pl x = pl b)
theorem pl_bd (n : Int) : 0 ≤ pl n ∧ pl n < 65536 := by unfold pl; omega
theorem far_bd (a b : Int) : 0 ≤ far a b ∧ far a b < 65536 := by unfold far; omega
theorem pl_num (n : Int) : Num (pl n) := by have := pl_bd n; exact ⟨by omega, by omega⟩
theorem far_num (a b : Int) : Num (far a b) := by have := far_bd a b; exact ⟨by omega, by omega⟩
theorem far_pl (a b : Int) : pl (pl b - pl a) = far a b := by unfold pl far; omega
theorem pl_pl (n : Int) : pl (pl n) = pl n := by unfold pl; omega
theorem rnd_bd (a b : Int) : 0 < rnd a b ∧ rnd a b ≤ 65536 := by have := far_bd a b; unfold rnd; split <;> omega

theorem place_any (n : Int) (w : World) (hn : Num n) : Calls Tryd.prog 12 #[.int .i64 n] w fun e w' => e = .returned (.int .i64 (pl n)) ∧ w = w' := by
  unfold Num at hn
  have hb := tmod_bd n 65536 (by omega)
  go_enter Tryd.func12, Tryd.ntmps12
  go_wp2
  go_ret
  exact ⟨ret_i (rest_eq n 65536), rfl⟩
theorem place_ref (n : Int) (w : World) (hn : Num n) : Calls Tryd.prog 13 #[.int .i64 n] w fun e w' => e = .returned (.int .i64 (pl n)) ∧ w = w' := by
  unfold Num at hn
  have hb := tmod_bd n 65536 (by omega)
  go_enter Tryd.func13, Tryd.ntmps13
  go_wp2
  go_ret
  exact ⟨ret_i (rest_eq n 65536), rfl⟩
theorem sub_num {p q : Int} (hp : 0 ≤ p ∧ p < 65536) (hq : 0 ≤ q ∧ q < 65536) : Num (p - q) := ⟨by omega, by omega⟩
theorem far_any (a b : Int) (w : World) (ha : Num a) (hb : Num b) : Calls Tryd.prog 14 #[.int .i64 a, .int .i64 b] w fun e w' => e = .returned (.int .i64 (far a b)) ∧ w = w' := by
  have e := far_pl a b
  have h1 := fun w => place_any a w ha
  have h2 := fun w => place_any b w hb
  have h3 := fun w => place_any (pl b - pl a) w (sub_num (pl_bd b) (pl_bd a))
  rw [e] at h3
  have k1 := pl_bd a
  have k2 := pl_bd b
  generalize pl a = p at *
  generalize pl b = q at *
  clear ha hb e
  go_enter Tryd.func14, Tryd.ntmps14
  go_wp2_with (go_at_call 12; first | (refine (h1 _).mono ?_; rintro e w' ⟨rfl, rfl⟩) | (refine (h2 _).mono ?_; rintro e w' ⟨rfl, rfl⟩) | (refine (h3 _).mono ?_; rintro e w' ⟨rfl, rfl⟩))
  go_ret
  exact ⟨rfl, rfl⟩
theorem far_ref (a b : Int) (w : World) (ha : Num a) (hb : Num b) : Calls Tryd.prog 15 #[.int .i64 a, .int .i64 b] w fun e w' => e = .returned (.int .i64 (far a b)) ∧ w = w' := by
  have e := far_pl a b
  have h1 := fun w => place_ref a w ha
  have h2 := fun w => place_ref b w hb
  have h3 := fun w => place_ref (pl b - pl a) w (sub_num (pl_bd b) (pl_bd a))
  rw [e] at h3
  have k1 := pl_bd a
  have k2 := pl_bd b
  generalize pl a = p at *
  generalize pl b = q at *
  clear ha hb e
  go_enter Tryd.func15, Tryd.ntmps15
  go_wp2_with (go_at_call 13; first | (refine (h1 _).mono ?_; rintro e w' ⟨rfl, rfl⟩) | (refine (h2 _).mono ?_; rintro e w' ⟨rfl, rfl⟩) | (refine (h3 _).mono ?_; rintro e w' ⟨rfl, rfl⟩))
  go_ret
  exact ⟨rfl, rfl⟩
theorem round_any (a b : Int) (w : World) (ha : Num a) (hb : Num b) : Calls Tryd.prog 25 #[.int .i64 a, .int .i64 b] w fun e w' => e = .returned (.int .i64 (rnd a b)) ∧ w = w' := by
  have h1 := fun w => far_any a b w ha hb
  have k1 := far_bd a b
  by_cases h : 0 < far a b
  · have e : rnd a b = far a b := if_pos h
    rw [e]
    clear e
    generalize far a b = p at *
    clear ha hb
    go_enter Tryd.func25, Tryd.ntmps25
    go_wp2_with (go_at_call 14; refine (h1 _).mono ?_; rintro e w' ⟨rfl, rfl⟩)
    go_ret
    exact ⟨rfl, rfl⟩
  · have e : rnd a b = 65536 := if_neg h
    have h0 : far a b = 0 := by omega
    rw [e]
    rw [h0] at h1
    clear e h h0 k1 ha hb
    go_enter Tryd.func25, Tryd.ntmps25
    go_wp2_with (go_at_call 14; refine (h1 _).mono ?_; rintro e w' ⟨rfl, rfl⟩)
    go_ret
    exact ⟨rfl, rfl⟩
theorem in_any (a x b : Int) (w : World) (ha : Num a) (hx : Num x) (hb : Num b) : Calls Tryd.prog 16 #[.int .i64 a, .int .i64 x, .int .i64 b] w fun e w' => e = .returned (.bool (inB a x b)) ∧ w = w' := by
  have h1 := fun w => far_any a x w ha hx
  have h2 := fun w => round_any a b w ha hb
  have k1 := far_bd a x
  have k2 := rnd_bd a b
  unfold inB
  by_cases h : 0 < far a x
  · have e : decide (0 < far a x ∧ far a x < rnd a b) = decide (far a x < rnd a b) := by simp [h]
    rw [e]
    clear e
    generalize far a x = p at *
    generalize rnd a b = q at *
    clear ha hx hb
    go_enter Tryd.func16, Tryd.ntmps16
    go_wp2_with (first | (go_at_call 14; refine (h1 _).mono ?_; rintro e w' ⟨rfl, rfl⟩) | (go_at_call 25; refine (h2 _).mono ?_; rintro e w' ⟨rfl, rfl⟩))
    go_ret
    exact ⟨rfl, rfl⟩
  · have h0 : far a x = 0 := by omega
    rw [h0] at h1 ⊢
    rw [decide_eq_false (by omega)]
    clear h h0 k1 k2 ha hx hb h2
    go_enter Tryd.func16, Tryd.ntmps16
    go_wp2_with (first | (go_at_call 14; refine (h1 _).mono ?_; rintro e w' ⟨rfl, rfl⟩))
    go_ret
    exact ⟨rfl, rfl⟩
theorem upTo_any (a x b : Int) (w : World) (ha : Num a) (hx : Num x) (hb : Num b) : Calls Tryd.prog 18 #[.int .i64 a, .int .i64 x, .int .i64 b] w fun e w' => e = .returned (.bool (upB a x b)) ∧ w = w' := by
  have h1 := fun w => in_any a x b w ha hx hb
  have h2 := fun w => place_any x w hx
  have h3 := fun w => place_any b w hb
  unfold upB
  cases h : inB a x b
  · rw [h] at h1
    rw [Bool.false_or]
    clear h ha hx hb
    generalize pl x = p at *
    generalize pl b = q at *
    go_enter Tryd.func18, Tryd.ntmps18
    go_wp2_with (first | (go_at_call 16; refine (h1 _).mono ?_; rintro e w' ⟨rfl, rfl⟩) | (go_at_call 12; first | (refine (h2 _).mono ?_; rintro e w' ⟨rfl, rfl⟩) | (refine (h3 _).mono ?_; rintro e w' ⟨rfl, rfl⟩)))
    go_ret
    exact ⟨ret_b (by rw [Bool.eq_iff_iff]; simp), rfl⟩
  · rw [h] at h1
    rw [Bool.true_or]
    clear h ha hx hb h2 h3
    go_enter Tryd.func18, Tryd.ntmps18
    go_wp2_with (first | (go_at_call 16; refine (h1 _).mono ?_; rintro e w' ⟨rfl, rfl⟩))
    go_ret
    exact ⟨rfl, rfl⟩
/-- The document's own answer of between is the same. -/
theorem in_same (a x b : Int) : inB a x b = if pl a = pl b then decide (pl x ≠ pl a) else decide (0 < far a x ∧ far a x < far a b) := by
  unfold inB rnd
  have h : pl a = pl b ↔ far a b = 0 := by unfold pl far; omega
  have h2 : pl x ≠ pl a ↔ 0 < far a x := by unfold pl far; omega
  have k := far_bd a x
  have k2 := far_bd a b
  by_cases e : pl a = pl b
  · rw [if_pos e, if_neg (by have := h.1 e; omega)]
    rw [decide_eq_decide]
    rw [h2]
    omega
  · rw [if_neg e, if_pos (by have : ¬ far a b = 0 := fun z => e (h.2 z); omega)]
theorem in_ref (a x b : Int) (w : World) (ha : Num a) (hx : Num x) (hb : Num b) : Calls Tryd.prog 17 #[.int .i64 a, .int .i64 x, .int .i64 b] w fun e w' => e = .returned (.bool (inB a x b)) ∧ w = w' := by
  have p1 := fun w => place_ref a w ha
  have p2 := fun w => place_ref b w hb
  have p3 := fun w => place_ref x w hx
  have h1 := fun w => far_ref a x w ha hx
  have h2 := fun w => far_ref a b w ha hb
  have k1 := far_bd a x
  rw [in_same]
  clear ha hx hb
  by_cases e : pl a = pl b
  · rw [if_pos e]
    rw [← e] at p2
    clear e h1 h2 k1
    generalize pl a = p at *
    generalize pl x = q at *
    go_enter Tryd.func17, Tryd.ntmps17
    go_wp2_with fail
    refine (p1 _).mono ?_; rintro e w' ⟨rfl, rfl⟩
    go_wp2_with fail
    refine (p2 _).mono ?_; rintro e w' ⟨rfl, rfl⟩
    go_wp2_with fail
    refine (p3 _).mono ?_; rintro e w' ⟨rfl, rfl⟩
    go_wp2_with fail
    refine (p1 _).mono ?_; rintro e w' ⟨rfl, rfl⟩
    go_wp2
    go_ret
    exact ⟨ret_b (by rw [Bool.eq_iff_iff]; simp), rfl⟩
  · rw [if_neg e]
    have hp : (pl a == pl b) = false := by simpa using e
    clear e p3
    generalize pl a = p at *
    generalize pl b = q at *
    generalize far a x = f at *
    generalize far a b = g at *
    by_cases h : 0 < f
    · have e : decide (0 < f ∧ f < g) = decide (f < g) := by simp [h]
      rw [e]
      clear e
      go_enter Tryd.func17, Tryd.ntmps17
      go_wp2_with fail
      refine (p1 _).mono ?_; rintro e w' ⟨rfl, rfl⟩
      go_wp2_with fail
      refine (p2 _).mono ?_; rintro e w' ⟨rfl, rfl⟩
      go_wp2_with fail
      refine (h1 _).mono ?_; rintro e w' ⟨rfl, rfl⟩
      go_wp2_with fail
      refine (h1 _).mono ?_; rintro e w' ⟨rfl, rfl⟩
      go_wp2_with fail
      refine (h2 _).mono ?_; rintro e w' ⟨rfl, rfl⟩
      go_wp2
      go_ret
      exact ⟨rfl, rfl⟩
    · obtain rfl : f = 0 := by omega
      rw [decide_eq_false (by omega)]
      clear h k1
      go_enter Tryd.func17, Tryd.ntmps17
      go_wp2_with fail
      refine (p1 _).mono ?_; rintro e w' ⟨rfl, rfl⟩
      go_wp2_with fail
      refine (p2 _).mono ?_; rintro e w' ⟨rfl, rfl⟩
      go_wp2_with fail
      refine (h1 _).mono ?_; rintro e w' ⟨rfl, rfl⟩
      go_wp2
      go_ret
      exact ⟨rfl, rfl⟩
theorem upTo_ref (a x b : Int) (w : World) (ha : Num a) (hx : Num x) (hb : Num b) : Calls Tryd.prog 19 #[.int .i64 a, .int .i64 x, .int .i64 b] w fun e w' => e = .returned (.bool (upB a x b)) ∧ w = w' := by
  have h1 := fun w => in_ref a x b w ha hx hb
  have h2 := fun w => place_ref x w hx
  have h3 := fun w => place_ref b w hb
  unfold upB
  cases h : inB a x b
  · rw [h] at h1
    rw [Bool.false_or]
    clear h ha hx hb
    generalize pl x = p at *
    generalize pl b = q at *
    go_enter Tryd.func19, Tryd.ntmps19
    go_wp2_with (first | (go_at_call 17; refine (h1 _).mono ?_; rintro e w' ⟨rfl, rfl⟩) | (go_at_call 13; first | (refine (h2 _).mono ?_; rintro e w' ⟨rfl, rfl⟩) | (refine (h3 _).mono ?_; rintro e w' ⟨rfl, rfl⟩)))
    go_ret
    exact ⟨ret_b (by rw [Bool.eq_iff_iff]; simp), rfl⟩
  · rw [h] at h1
    rw [Bool.true_or]
    clear h ha hx hb h2 h3
    go_enter Tryd.func19, Tryd.ntmps19
    go_wp2_with (first | (go_at_call 17; refine (h1 _).mono ?_; rintro e w' ⟨rfl, rfl⟩))
    go_ret
    exact ⟨rfl, rfl⟩
end Go.Proofs.YtnbabohhmcbhcaaDoor
