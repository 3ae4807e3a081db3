/- Whether a float is whole: by 'math.Trunc', by the document, by the law; of a number, and of what is none. -/
import Derived.Test.YtjljojnedaclgaaLeaf
set_option linter.unusedVariables false
set_option linter.unusedSimpArgs false
namespace Go.Proofs.Ytjljojnedaclgaa
open Go.RowKit
open Ieee (double)

theorem ext36_nan (b : Nat) (s : Bool) (t : Nat) (h : double.read b = .nan s t) : (∀ w : World, (callFunc 36 #[.float .f64 b]).run Try.prog w = .ok (.value (.float .f64 b)) w) ∨ ∃ F : World → Nat, ∀ w : World, (callFunc 36 #[.float .f64 b]).run Try.prog w = .ok (.value (.float .f64 (F w))) w.drew := by
  by_cases hq : double.quiet t = t
  · left
    intro w
    rw [run_callFunc_extern (fn := Try.f36) (e := Extern.MathFloor.toIntegral "math.archTrunc" .zero) Try.func36 (by kernel_rfl) (by kernel_rfl) (by kernel_rfl) (by kernel_rfl)]
    unfold Extern.MathFloor.toIntegral
    show (Sem.run _ (match double.read b with | .nan s t => _ | d => _) w).andThen _ = _
    rw [h]
    show (Sem.run _ (if double.quiet t = t then _ else _) w).andThen _ = _
    rw [if_pos hq]; rfl
  · right
    refine ⟨fun w => if ((Question.extern "math.Floor,Ceil,Trunc,RoundToEven.signallingNaN kept" 2).cut (w.tape w.drawn (.extern "math.Floor,Ceil,Trunc,RoundToEven.signallingNaN kept" 2)) == 1) = true then b else double.write (.nan s (double.quiet t)), fun w => ?_⟩
    rw [run_callFunc_extern (fn := Try.f36) (e := Extern.MathFloor.toIntegral "math.archTrunc" .zero) Try.func36 (by kernel_rfl) (by kernel_rfl) (by kernel_rfl) (by kernel_rfl)]
    unfold Extern.MathFloor.toIntegral
    show (Sem.run _ (match double.read b with | .nan s t => _ | d => _) w).andThen _ = _
    rw [h]
    show (Sem.run _ (if double.quiet t = t then _ else _) w).andThen _ = _
    rw [if_neg hq]
    simp only [Sem.run_bind, run_choose_drew]
    rw [if_neg (by simp [Question.forced])]
    rfl

set_option maxHeartbeats 400000 in
theorem trunc_num (b : Nat) (hb : ∀ s t, double.read b ≠ .nan s t) (w : World) : Calls Try.prog 33 #[.float .f64 b] w fun e w' => e = .returned (.float .f64 (double.write ((double.read b).integral .zero))) ∧ w = w' := by
  have h := ext36_num b hb
  clear hb
  go_enter Try.func33, Try.ntmps33
  go_wp2
  go_ret
  exact ⟨rfl, rfl⟩
set_option maxHeartbeats 400000 in
theorem trunc_nan (b : Nat) (s : Bool) (t : Nat) (hn : double.read b = .nan s t) (w : World) : Calls Try.prog 33 #[.float .f64 b] w fun e w' => ∃ r, e = .returned (.float .f64 r) ∧ Below w.heap.size w w' := by
  rcases ext36_nan b s t hn with h | ⟨F, h⟩
  all_goals
    clear hn
    go_enter Try.func33, Try.ntmps33
    go_wp2
    go_ret
  · exact ⟨_, rfl, Below.refl _ _⟩
  · exact ⟨_, rfl, (Below.refl _ _).drew⟩

/-- Whether v units are a whole number. -/
def whV (v : Int) : Bool := decide (v = cutI v * (U : Int))
theorem whV_yes (n : Int) : whV (n * (U : Int)) = true := by unfold whV; rw [cutI_whole]; simp
theorem whV_wh {b : Nat} {v : Int} (h : Val b v) (hw : whV v = true) : Wh b (cutI v) := by
  unfold whV at hw; unfold Wh; rw [← of_decide_eq_true hw]; exact h

theorem cmp_eq (v u : Int) : (some (compare v u) == some Ordering.eq) = decide (v = u) := by
  rw [cmp_def]
  by_cases h : v < u
  · rw [if_pos h, decide_eq_false (by omega)]; rfl
  · by_cases h2 : v = u
    · rw [if_neg h, if_pos h2, decide_eq_true h2]; rfl
    · rw [if_neg h, if_neg h2, decide_eq_false h2]; rfl

set_option maxHeartbeats 400000 in
/-- Of a number below 2^53. -/
theorem whole_val (b : Nat) (v : Int) (hb : Val b v) (hv : (cutI v).natAbs < 9007199254740992) (w : World) : Calls Try.prog 28 #[.float .f64 b] w fun e w' => e = .returned (.bool (whV v)) ∧ w = w' := by
  have ht := trunc_val hb hv
  have hn : ∀ s t, double.read b ≠ .nan s t := fun s t h => by obtain ⟨_, _, _, h2, _⟩ := hb; rw [h] at h2; cases h2
  generalize hr : double.write ((double.read b).integral .zero) = r at ht
  have hc : ∀ w : World, Calls Try.prog 33 #[.float .f64 b] w fun e w' => e = .returned (.float .f64 r) ∧ w = w' := fun w => by rw [← hr]; exact trunc_num b hn w
  have ho : (FloatKind.f64.format.order b r == some Ordering.eq) = whV v := by
    show (double.order b r == _) = _
    rw [order_val hb ht, cmp_eq]; rfl
  have HO := Lib.hid ho
  clear hb hn ht hr hv ho
  go_enter Try.func28, Try.ntmps28
  go_wp2_with (go_at_call 33; refine (hc _).mono ?_; rintro e w' ⟨rfl, rfl⟩)
  go_ret
  exact ⟨ret_b HO.out, rfl⟩
set_option maxHeartbeats 400000 in
/-- Of a number that is great, or infinite: whatever. -/
theorem whole_some (b : Nat) (hn : ∀ s t, double.read b ≠ .nan s t) (w : World) : Calls Try.prog 28 #[.float .f64 b] w fun e w' => (∃ r, e = .returned (.bool r)) ∧ w = w' := by
  have hc := fun w => trunc_num b hn w
  clear hn
  generalize double.write ((double.read b).integral .zero) = r at hc
  go_enter Try.func28, Try.ntmps28
  go_wp2_with (go_at_call 33; refine (hc _).mono ?_; rintro e w' ⟨rfl, rfl⟩)
  go_ret
  exact ⟨⟨_, rfl⟩, rfl⟩
set_option maxHeartbeats 400000 in
/-- Of what is no number: no. -/
theorem whole_nan (b : Nat) (s : Bool) (t : Nat) (hn : double.read b = .nan s t) (w : World) : Calls Try.prog 28 #[.float .f64 b] w fun e w' => e = .returned (.bool false) ∧ Below w.heap.size w w' := by
  have hc := fun w => trunc_nan b s t hn w
  have HO : ∀ r, Hid ((FloatKind.f64.format.order b r == some Ordering.eq) = false) := fun r => Lib.hid (by show (double.order b r == _) = _; rw [order_nan_l hn]; rfl)
  clear hn
  go_enter Try.func28, Try.ntmps28
  go_wp2_with (go_at_call 33; refine (hc _).mono ?_; rintro e w' ⟨r, rfl, hbl⟩)
  go_ret
  exact ⟨ret_b (HO r).out, hbl⟩

end Go.Proofs.Ytjljojnedaclgaa
