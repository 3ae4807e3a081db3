/- Contracts of frame's functions of states and sizes, and of the document's own: for any state, any number. -/
import Derived.Test.YthjfjlkkbdjgfaaChecked
import Derived.Test.YthjfjlkkbdjgfaaMem
import Derived.Test.YthjfjlkkbdjgfaaFrmMath
import Derived.WalkKit
import Derived.WalkLawsBesides
import Derived.Laws.NewFold
import Derived.Laws.BitsAllLaws
import Derived.BigQuiet
import Derived.Deep.QuietTactic
import Derived.Lib.Small
import Derived.Lib.Walk
import Derived.Lib.Hide
import Derived.Handy
set_option linter.unusedVariables false
set_option linter.unusedSimpArgs false
namespace Go.Proofs.Ythjfjlkkbdjgfaa
open Go.RowKit

theorem ret_i {a b : Int} (h : a = b) : Ending.returned (.int .i64 a) = .returned (.int .i64 b) := by rw [h]
theorem ret_b {a b : Bool} (h : a = b) : Ending.returned (.bool a) = .returned (.bool b) := by rw [h]
theorem ret_u {a b : Int} (h : a = b) : Ending.returned (.int .u32 a) = .returned (.int .u32 b) := by rw [h]

/-- What the machine's operations do with words of 32 bits. -/
theorem u32_shl (s : BitVec 32) : (s.toNat : Int) * (2 : Int) % (4294967296 : Int) = ((s <<< 1).toNat : Int) := by
  rw [BitVec.toNat_shiftLeft, Nat.shiftLeft_eq]
  omega
theorem u32_or_bv (s t : BitVec 32) : bits .or .u32 (s.toNat : Int) (t.toNat : Int) = ((s ||| t).toNat : Int) := by
  rw [u32_or_nat _ _ s.isLt t.isLt, BitVec.toNat_or]
theorem u32_xor_bv (s t : BitVec 32) : bits .xor .u32 (s.toNat : Int) (t.toNat : Int) = ((s ^^^ t).toNat : Int) := by
  rw [u32_xor_nat _ _ s.isLt t.isLt, BitVec.toNat_xor]
theorem u32_and_bv (s t : BitVec 32) : bits .and .u32 (s.toNat : Int) (t.toNat : Int) = ((s &&& t).toNat : Int) := by
  rw [u32_and_nat _ _ s.isLt t.isLt, BitVec.toNat_and]
theorem top_bit : ∀ i < 32, (2147483648#32).getLsbD i = decide (i = 31) := by decide
theorem top_word (s : BitVec 32) : s &&& 2147483648#32 = if s.msb then 2147483648#32 else 0#32 := by
  apply BitVec.eq_of_getLsbD_eq
  intro i hi
  rw [BitVec.getLsbD_and, top_bit i hi, BitVec.msb_eq_getLsbD_last]
  by_cases h : i = 31
  · subst h
    cases hs : s.getLsbD 31 <;> simp [hs]
  · cases hs : s.getLsbD (32 - 1) <;> simp [h, top_bit i hi]
theorem top_and (s : BitVec 32) : bits .and .u32 (s.toNat : Int) 2147483648 = if s.msb then 2147483648 else 0 := by
  have h := u32_and_bv s 2147483648#32
  rw [show ((2147483648#32).toNat : Int) = 2147483648 from rfl] at h
  rw [h, top_word]
  cases s.msb <;> rfl
theorem low_or (s : BitVec 32) : s <<< 1 ||| 1#32 = s <<< 1 ^^^ 1#32 := by
  apply BitVec.eq_of_getLsbD_eq
  intro i hi
  rw [BitVec.getLsbD_or, BitVec.getLsbD_xor]
  cases i with
  | zero => simp
  | succ i => simp

set_option maxRecDepth 100000 in
set_option maxHeartbeats 1000000 in
theorem Step_any (s : BitVec 32) (b : Bool) (w : World) : Calls Try.prog 14 #[.int .u32 (s.toNat : Int), .bool b] w fun e w' => e = .returned (.int .u32 ((stp s b).toNat : Int)) ∧ w = w' := by
  have h1 := u32_shl s
  have h2 := top_and s
  have h3 := u32_or_bv (s <<< 1) 1#32
  have h4 := u32_xor_bv (s <<< 1) poly
  have h5 := u32_xor_bv (s <<< 1 ^^^ 1#32) poly
  rw [low_or] at h3
  rw [show ((1#32).toNat : Int) = 1 from rfl] at h3
  rw [show (poly.toNat : Int) = 1947962583 from rfl] at h4 h5
  obtain ⟨r, hr⟩ : ∃ r, (stp s b).toNat = r := ⟨_, rfl⟩
  have hr' := hr
  unfold stp at hr'
  rw [hr]
  clear hr
  generalize hx1 : (s <<< 1).toNat = x1 at *
  generalize hx2 : (s <<< 1 ^^^ 1#32).toNat = x2 at *
  generalize hx3 : (s <<< 1 ^^^ poly).toNat = x3 at *
  generalize hx4 : (s <<< 1 ^^^ 1#32 ^^^ poly).toNat = x4 at *
  have e1 : b = false → s.msb = false → r = x1 := by intro hb hm; rw [← hr', ← hx1, hb, hm]; simp
  have e2 : b = true → s.msb = false → r = x2 := by intro hb hm; rw [← hr', ← hx2, hb, hm]; simp
  have e3 : b = false → s.msb = true → r = x3 := by intro hb hm; rw [← hr', ← hx3, hb, hm]; simp
  have e4 : b = true → s.msb = true → r = x4 := by intro hb hm; rw [← hr', ← hx4, hb, hm]; simp
  clear hr' hx1 hx2 hx3 hx4
  have hlt := s.isLt
  generalize s.toNat = sn at *
  cases b <;> cases hm : s.msb <;> rw [hm] at h2 <;> simp only [hm, if_true, if_false, Bool.false_eq_true] at h2 <;> simp only [hm, forall_const, reduceCtorEq, false_implies] at e1 e2 e3 e4 <;>
  · clear hm
    go_enter Try.func14, Try.ntmps14
    go_wp2
    go_ret
    refine ⟨ret_u ?_, rfl⟩
    simp only [h1, h3, h4, h5, e1, e2, e3, e4]

set_option maxRecDepth 100000 in
set_option maxHeartbeats 1000000 in
theorem Step_ref (s : BitVec 32) (b : Bool) (w : World) : Calls Try.prog 15 #[.int .u32 (s.toNat : Int), .bool b] w fun e w' => e = .returned (.int .u32 ((stp s b).toNat : Int)) ∧ w = w' := by
  have h1 := u32_shl s
  have h3 := u32_or_bv (s <<< 1) 1#32
  have h4 := u32_xor_bv (s <<< 1) poly
  have h5 := u32_xor_bv (s <<< 1 ^^^ 1#32) poly
  rw [low_or] at h3
  rw [show ((1#32).toNat : Int) = 1 from rfl] at h3
  rw [show (poly.toNat : Int) = 1947962583 from rfl] at h4 h5
  have h2 : (((s.toNat : Int) / 2147483648) == 1) = s.msb := by
    rw [BitVec.msb_eq_decide, Bool.eq_iff_iff, beq_iff_eq, decide_eq_true_iff]
    have := s.isLt
    omega
  obtain ⟨r, hr⟩ : ∃ r, (stp s b).toNat = r := ⟨_, rfl⟩
  have hr' := hr
  unfold stp at hr'
  rw [hr]
  clear hr
  generalize hx1 : (s <<< 1).toNat = x1 at *
  generalize hx2 : (s <<< 1 ^^^ 1#32).toNat = x2 at *
  generalize hx3 : (s <<< 1 ^^^ poly).toNat = x3 at *
  generalize hx4 : (s <<< 1 ^^^ 1#32 ^^^ poly).toNat = x4 at *
  have e1 : b = false → s.msb = false → r = x1 := by intro hb hm; rw [← hr', ← hx1, hb, hm]; simp
  have e2 : b = true → s.msb = false → r = x2 := by intro hb hm; rw [← hr', ← hx2, hb, hm]; simp
  have e3 : b = false → s.msb = true → r = x3 := by intro hb hm; rw [← hr', ← hx3, hb, hm]; simp
  have e4 : b = true → s.msb = true → r = x4 := by intro hb hm; rw [← hr', ← hx4, hb, hm]; simp
  clear hr' hx1 hx2 hx3 hx4
  have hlt := s.isLt
  generalize s.toNat = sn at *
  cases b <;> cases hm : s.msb <;> rw [hm] at h2 <;> simp only [hm, forall_const, reduceCtorEq, false_implies] at e1 e2 e3 e4 <;>
  · clear hm
    go_enter Try.func15, Try.ntmps15
    go_wp2
    go_ret
    refine ⟨ret_u ?_, rfl⟩
    simp only [h1, h3, h4, h5, e1, e2, e3, e4]

/-- How long a frame is. -/
def siz (n : Int) : Int := if n < 0 ∨ 112 < n then 0 else n + 8
set_option maxHeartbeats 1000000 in
theorem Size_any (n : Int) (w : World) : Calls Try.prog 19 #[.int .i64 n] w fun e w' => e = .returned (.int .i64 (siz n)) ∧ w = w' := by
  unfold siz
  by_cases h : n < 0
  · rw [if_pos (.inl h)]
    go_enter Try.func19, Try.ntmps19
    go_wp2_with fail
    refine wp_scope_fwd ?_
    go_wp2
    go_step3
    refine fwd_goto _ rfl ?_
    go_wp2
    refine nog_ret ?_
    go_ret
    exact ⟨rfl, rfl⟩
  · by_cases h2 : 112 < n
    · rw [if_pos (.inr h2)]
      go_enter Try.func19, Try.ntmps19
      go_wp2_with fail
      refine wp_scope_fwd ?_
      go_wp2
      go_step3
      refine fwd_goto _ rfl ?_
      go_wp2
      refine nog_ret ?_
      go_ret
      exact ⟨rfl, rfl⟩
    · rw [if_neg (by omega)]
      go_enter Try.func19, Try.ntmps19
      go_wp2_with fail
      refine wp_scope_fwd ?_
      go_wp2
      refine fwd_ret ?_
      go_ret
      exact ⟨ret_i (by omega), rfl⟩
set_option maxHeartbeats 1000000 in
theorem Size_ref (n : Int) (w : World) : Calls Try.prog 20 #[.int .i64 n] w fun e w' => e = .returned (.int .i64 (siz n)) ∧ w = w' := by
  unfold siz
  by_cases h : n < 0
  · rw [if_pos (.inl h)]
    go_enter Try.func20, Try.ntmps20
    go_wp2
    go_ret
    exact ⟨rfl, rfl⟩
  · by_cases h2 : 112 < n
    · rw [if_pos (.inr h2)]
      go_enter Try.func20, Try.ntmps20
      go_wp2
      go_ret
      exact ⟨rfl, rfl⟩
    · rw [if_neg (by omega)]
      go_enter Try.func20, Try.ntmps20
      go_wp2
      go_ret
      exact ⟨rfl, rfl⟩

/-- A slice of bytes. -/
theorem el23 : ElOf Try.prog 23 5 (.int .u8 0) 1 := ⟨Try.underlying23, by kernel_rfl, rfl, by decide⟩
set_option maxHeartbeats 1000000 in
theorem same_any (va vb : Value) (la lb : List UInt8) (w : World) (h1 : Sl w va (bv la)) (h2 : Sl w vb (bv lb)) :
    Calls Try.prog 18 #[va, vb] w fun e w' => e = .returned (.bool (decide (la = lb))) ∧ w = w' := by
  have r1 := run_str (P := Try.prog) 23 9 5 Try.underlying23 Try.underlying5 Try.underlying9 va la h1
  have r2 := run_str (P := Try.prog) 23 9 5 Try.underlying23 Try.underlying5 Try.underlying9 vb lb h2
  go_enter Try.func18, Try.ntmps18
  go_wp2
  go_ret
  refine ⟨ret_b ?_, rfl⟩
  rw [Bool.eq_iff_iff, beq_iff_eq, decide_eq_true_iff]
set_option maxHeartbeats 1000000 in
theorem Equal_any (va vb : Value) (la lb : List UInt8) (w : World) (h1 : Sl w va (bv la)) (h2 : Sl w vb (bv lb)) :
    Calls Try.prog 26 #[va, vb] w fun e w' => e = .returned (.bool (decide (la = lb))) ∧ w = w' := by
  have r1 := run_str (P := Try.prog) 23 9 5 Try.underlying23 Try.underlying5 Try.underlying9 va la h1
  have r2 := run_str (P := Try.prog) 23 9 5 Try.underlying23 Try.underlying5 Try.underlying9 vb lb h2
  go_enter Try.func26, Try.ntmps26
  go_wp2
  go_ret
  refine ⟨ret_b ?_, rfl⟩
  rw [Bool.eq_iff_iff, beq_iff_eq, decide_eq_true_iff]
end Go.Proofs.Ythjfjlkkbdjgfaa
