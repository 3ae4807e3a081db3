/- The document's own answers of compass, and the law's 'whole': for any arguments. -/
import Derived.Test.YtjljojnedaclgaaOf
set_option linter.unusedVariables false
set_option linter.unusedSimpArgs false
namespace Go.Proofs.Ytjljojnedaclgaa
open Go.RowKit Go.Shelf
open Ieee (double)

/-- A whole number between two. -/
def WhIn (x : Nat) (low high : Int) : Prop := ∃ n, Wh x n ∧ low ≤ n ∧ n ≤ high

/-- How a word stands to two whole ones, and to its own whole part. -/
inductive Stand (x l h : Nat) (b : Bool) : Prop
  | low (h1 : (FloatKind.f64.format.order x l == some Ordering.gt) = false) (h2 : (FloatKind.f64.format.order x l == some Ordering.eq) = false) (e : b = false)
  | high (h0 : (FloatKind.f64.format.order x l == some Ordering.gt) = true ∨ ((FloatKind.f64.format.order x l == some Ordering.gt) = false ∧ (FloatKind.f64.format.order x l == some Ordering.eq) = true))
      (h1 : (FloatKind.f64.format.order x h == some Ordering.lt) = false) (h2 : (FloatKind.f64.format.order x h == some Ordering.eq) = false) (e : b = false)
  | between (c : Int) (h0 : (FloatKind.f64.format.order x l == some Ordering.gt) = true ∨ ((FloatKind.f64.format.order x l == some Ordering.gt) = false ∧ (FloatKind.f64.format.order x l == some Ordering.eq) = true))
      (h1 : (FloatKind.f64.format.order x h == some Ordering.lt) = true ∨ ((FloatKind.f64.format.order x h == some Ordering.lt) = false ∧ (FloatKind.f64.format.order x h == some Ordering.eq) = true))
      (h2 : ∀ w : World, (convert 22 3 (.float .f64 x)).run Try.prog w = .ok (.int .i64 c) w) (h3 : (FloatKind.f64.format.order (floatOfInt .f64 c) x == some Ordering.eq) = b)

theorem val_gt {a b : Nat} {v u : Int} (ha : Val a v) (hb : Val b u) : (FloatKind.f64.format.order a b == some Ordering.gt) = decide (u < v) := by
  show (double.order a b == _) = _
  rw [order_val ha hb, cmp_def]
  by_cases h : v < u
  · rw [if_pos h, decide_eq_false (by omega)]; rfl
  · by_cases h2 : v = u
    · rw [if_neg h, if_pos h2, decide_eq_false (by omega)]; rfl
    · rw [if_neg h, if_neg h2, decide_eq_true (by omega)]; rfl
theorem val_eq {a b : Nat} {v u : Int} (ha : Val a v) (hb : Val b u) : (FloatKind.f64.format.order a b == some Ordering.eq) = decide (v = u) := by
  show (double.order a b == _) = _
  rw [order_val ha hb, cmp_eq]
theorem val_lt {a b : Nat} {v u : Int} (ha : Val a v) (hb : Val b u) : (FloatKind.f64.format.order a b == some Ordering.lt) = decide (v < u) := by
  show (double.order a b == _) = _
  rw [order_val ha hb, cmp_def]
  by_cases h : v < u
  · rw [if_pos h, decide_eq_true h]; rfl
  · by_cases h2 : v = u
    · rw [if_neg h, if_pos h2, decide_eq_false h]; rfl
    · rw [if_neg h, if_neg h2, decide_eq_false h]; rfl

theorem cut_between {v a b : Int} (h1 : a * (U : Int) ≤ v) (h2 : v ≤ b * (U : Int)) (ha : a.natAbs ≤ 20000) (hb : b.natAbs ≤ 20000) : (cutI v).natAbs ≤ 20000 := by
  rw [cutI_abs]
  have hU := U_pos
  have hUz : (0 : Int) < U := by omega
  have g1 : (-20000) * (U : Int) ≤ a * U := Int.mul_le_mul_of_nonneg_right (by omega) (Int.le_of_lt hUz)
  have g2 : b * (U : Int) ≤ 20000 * U := Int.mul_le_mul_of_nonneg_right (by omega) (Int.le_of_lt hUz)
  have : v.natAbs ≤ 20000 * U := by omega
  exact Nat.div_le_of_le_mul (by rw [Nat.mul_comm]; exact this)

theorem stand_of (x l h : Nat) (a b : Int) (hl : Wh l a) (hh : Wh h b) (ha : a.natAbs ≤ 20000) (hb : b.natAbs ≤ 20000) (r : Bool) (hr : r = true ↔ WhIn x a b) : Stand x l h r := by
  have hU := U_pos
  have hUz : (0 : Int) < U := by omega
  have nr : ¬ WhIn x a b → r = false := fun k => by
    cases r with
    | false => rfl
    | true => exact absurd (hr.1 rfl) k
  rcases cases_word x with ⟨v, hv⟩ | ⟨s, hs⟩ | ⟨s, t, hs⟩
  · by_cases c1 : v < a * (U : Int)
    · refine .low (by rw [val_gt hv hl]; simp; omega) (by rw [val_eq hv hl]; simp; omega) (nr ?_)
      rintro ⟨n, h1, h2, h3⟩
      obtain ⟨s, m, e, q1, _, q2⟩ := hv
      obtain ⟨s', m', e', q3, _, q4⟩ := h1
      rw [q1] at q3; injection q3 with z1 z2 z3
      subst z1 z2 z3
      have := Int.mul_le_mul_of_nonneg_right h2 (Int.le_of_lt hUz)
      omega
    · have hlow : (FloatKind.f64.format.order x l == some Ordering.gt) = true ∨ ((FloatKind.f64.format.order x l == some Ordering.gt) = false ∧ (FloatKind.f64.format.order x l == some Ordering.eq) = true) := by
        rw [val_gt hv hl, val_eq hv hl]
        by_cases k : a * (U : Int) < v
        · exact .inl (decide_eq_true k)
        · exact .inr ⟨decide_eq_false k, decide_eq_true (by omega)⟩
      by_cases c2 : b * (U : Int) < v
      · refine .high hlow (by rw [val_lt hv hh]; simp; omega) (by rw [val_eq hv hh]; simp; omega) (nr ?_)
        rintro ⟨n, h1, h2, h3⟩
        obtain ⟨s, m, e, q1, _, q2⟩ := hv
        obtain ⟨s', m', e', q3, _, q4⟩ := h1
        rw [q1] at q3; injection q3 with z1 z2 z3
        subst z1 z2 z3
        have := Int.mul_le_mul_of_nonneg_right h3 (Int.le_of_lt hUz)
        omega
      · have hc := cut_between (v := v) (a := a) (b := b) (by omega) (by omega) ha hb
        refine .between (cutI v) hlow ?_ ?_ ?_
        · rw [val_lt hv hh, val_eq hv hh]
          by_cases k : v < b * (U : Int)
          · exact .inl (decide_eq_true k)
          · exact .inr ⟨decide_eq_false k, decide_eq_true (by omega)⟩
        · intro w
          refine run_convert_float_int w 22 3 .f64 .i64 x (cutI v) (by rw [Try.underlying22]; rfl) Try.underlying3 ?_
          unfold floatToIntVal
          show (match (double.read x).toInt .zero with | some n => _ | none => none) = _
          rw [toInt_val hv]
          exact if_pos (by show -9223372036854775808 ≤ _ ∧ _ ≤ 9223372036854775807; omega)
        · rw [val_eq (floatOfInt_wh (cutI v) (by omega)) hv]
          by_cases k : cutI v * (U : Int) = v
          · rw [decide_eq_true k]
            refine (hr.2 ⟨cutI v, by unfold Wh; rw [k]; exact hv, ?_, ?_⟩).symm
            · rcases ilt (cutI v) a with q | q
              · have := Int.mul_lt_mul_of_pos_right q hUz; omega
              · exact q
            · rcases ilt b (cutI v) with q | q
              · have := Int.mul_lt_mul_of_pos_right q hUz; omega
              · exact q
          · rw [decide_eq_false k]
            refine (nr ?_).symm
            rintro ⟨n, h1, h2, h3⟩
            obtain ⟨s, m, e, q1, _, q2⟩ := hv
            obtain ⟨s', m', e', q3, _, q4⟩ := h1
            rw [q1] at q3; injection q3 with z1 z2 z3
            subst z1 z2 z3
            rw [q2, ← q4, cutI_whole] at k
            exact k rfl
  · have hn : ¬ WhIn x a b := by
      rintro ⟨n, ⟨_, _, _, h1, _⟩, _⟩; rw [hs] at h1; cases h1
    cases s
    · exact .high (.inl (by show (double.order x l == _) = _; rw [order_inf_l hs hl]; rfl)) (by show (double.order x h == _) = _; rw [order_inf_l hs hh]; rfl) (by show (double.order x h == _) = _; rw [order_inf_l hs hh]; rfl) (nr hn)
    · exact .low (by show (double.order x l == _) = _; rw [order_inf_l hs hl]; rfl) (by show (double.order x l == _) = _; rw [order_inf_l hs hl]; rfl) (nr hn)
  · have hn : ¬ WhIn x a b := by
      rintro ⟨n, ⟨_, _, _, h1, _⟩, _⟩; rw [hs] at h1; cases h1
    exact .low (by show (double.order x l == _) = _; rw [order_nan_l hs]; rfl) (by show (double.order x l == _) = _; rw [order_nan_l hs]; rfl) (nr hn)

set_option maxHeartbeats 1000000 in
theorem wholeR_any (x : Nat) (a b : Int) (ha : a.natAbs ≤ 20000) (hb : b.natAbs ≤ 20000) (r : Bool) (hr : r = true ↔ WhIn x a b) (w : World) :
    Calls Try.prog 27 #[.float .f64 x, .int .i64 a, .int .i64 b] w fun e w' => e = .returned (.bool r) ∧ w = w' := by
  have hs := stand_of x _ _ a b (floatOfInt_wh a (by omega)) (floatOfInt_wh b (by omega)) ha hb r hr
  clear hr
  generalize hl : floatOfInt .f64 a = l at hs
  generalize hh : floatOfInt .f64 b = h at hs
  rcases hs with ⟨h1, h2, rfl⟩ | ⟨h0 | ⟨h00, h0⟩, h1, h2, rfl⟩ | ⟨c, h0 | ⟨h00, h0⟩, h1 | ⟨h11, h1⟩, h2, h3⟩
  all_goals
    go_enter Try.func27, Try.ntmps27
    go_wp2
    go_ret
    exact ⟨ret_b (by first | rfl | assumption), rfl⟩

theorem wh_m20000 : Wh 13894598808949489664 (-20000) := nearest_eq _ (by decide) (by decide +kernel)
theorem wh_20000 : Wh 4671226772094713856 20000 := nearest_eq _ (by decide) (by decide +kernel)
set_option maxHeartbeats 1000000 in
theorem wholeL_any (x : Nat) (r : Bool) (hr : r = true ↔ WhIn x (-20000) 20000) (w : World) :
    Calls Try.prog 21 #[.float .f64 x] w fun e w' => e = .returned (.bool r) ∧ w = w' := by
  have hs := stand_of x _ _ _ _ wh_m20000 wh_20000 (by decide) (by decide) r hr
  clear hr
  rcases hs with ⟨h1, h2, rfl⟩ | ⟨h0 | ⟨h00, h0⟩, h1, h2, rfl⟩ | ⟨c, h0 | ⟨h00, h0⟩, h1 | ⟨h11, h1⟩, h2, h3⟩
  all_goals
    go_enter Try.func21, Try.ntmps21
    go_wp2
    go_ret
    exact ⟨ret_b (by first | rfl | assumption), rfl⟩
end Go.Proofs.Ytjljojnedaclgaa
