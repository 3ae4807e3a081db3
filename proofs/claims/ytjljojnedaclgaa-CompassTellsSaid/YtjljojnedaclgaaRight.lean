/- 'Right': whether a number is a place's point: for any two parts. -/
import Derived.Test.YtjljojnedaclgaaWhole
set_option linter.unusedVariables false
set_option linter.unusedSimpArgs false
namespace Go.Proofs.Ytjljojnedaclgaa
open Go.RowKit
open Ieee (double)

/-- The parts are whole, and stand on the diamond. -/
def Dia (x y : Nat) (n m : Int) : Prop := Wh x n ∧ Wh y m ∧ n.natAbs + m.natAbs = 16384

theorem nearest_eq {n : Int} (b : Nat) (h : n.natAbs < 9007199254740992) (e : double.nearest (n < 0) n.natAbs 0 = b) : Wh b n := by rw [← e]; exact floatOf n h
theorem wh_16384 : Wh 4670232813583204352 16384 := nearest_eq _ (by decide) (by decide +kernel)
theorem wh_1 : Wh 4607182418800017408 1 := nearest_eq _ (by decide) (by decide +kernel)
theorem wh_m1 : Wh 13830554455654793216 (-1) := nearest_eq _ (by decide) (by decide +kernel)

theorem wh_inj {b : Nat} {n m : Int} (h1 : Wh b n) (h2 : Wh b m) : n = m := by
  obtain ⟨s, p, i, h1, _, e1⟩ := h1
  obtain ⟨t, q, j, h2, _, e2⟩ := h2
  rw [h1] at h2
  injection h2 with a b c
  subst a b c
  have hU := U_pos
  exact Int.eq_of_mul_eq_mul_right (by omega) (e1.trans e2.symm)

theorem whV_small {v : Int} (h : v.natAbs < 9007199254740992 * U) : (cutI v).natAbs < 9007199254740992 := by
  rw [cutI_abs]
  exact Nat.div_lt_of_lt_mul (by rw [Nat.mul_comm]; exact h)

theorem run_add {x y r : Nat} (h : double.add x y = some r) : ∀ w : World, (binOp .add 22 (.float .f64 x) (.float .f64 y)).run Try.prog w = .ok (.float .f64 r) w :=
  fun w => run_float_arith w .add 22 .f64 x y r h

theorem add_inf_l {a b : Nat} (ha : double.read a = .infinity false) (hb : (∃ v, Val b v) ∨ double.read b = .infinity false) : ∃ r, double.add a b = some r ∧ double.order r 4670232813583204352 = some .gt := by
  have hr : double.read (double.write (.infinity false)) = .infinity false := by decide +kernel
  refine ⟨double.write (.infinity false), ?_, by rw [order_inf_l hr wh_16384]; rfl⟩
  unfold Ieee.Format.add
  rcases hb with ⟨v, s, m, e, hb, _⟩ | hb <;> (rw [ha, hb]; rfl)
theorem add_inf_r {a b : Nat} {v : Int} (hb : double.read b = .infinity false) (ha : Val a v) : ∃ r, double.add a b = some r ∧ double.order r 4670232813583204352 = some .gt := by
  have hr : double.read (double.write (.infinity false)) = .infinity false := by decide +kernel
  refine ⟨double.write (.infinity false), ?_, by rw [order_inf_l hr wh_16384]; rfl⟩
  unfold Ieee.Format.add
  obtain ⟨s, m, e, ha, _⟩ := ha
  rw [ha, hb]; rfl

/-- A sum of two sizes, not told as a quarter. -/
theorem sum_not (x y : Nat) (h : ¬ ∃ n m, Dia x y n m) (hx : ∀ s t, double.read x ≠ .nan s t) (hy : ∀ s t, double.read y ≠ .nan s t)
    (hw : ∀ v u, Val x v → Val y u → v.natAbs + u.natAbs < 9007199254740992 * U → whV v = true ∧ whV u = true) :
    ∃ r, double.add (x % 9223372036854775808) (y % 9223372036854775808) = some r ∧ (double.order r 4670232813583204352 == some .eq) = false := by
  have fin : (∃ r, double.add (x % 9223372036854775808) (y % 9223372036854775808) = some r ∧ double.order r 4670232813583204352 = some .gt) → ∃ r, double.add (x % 9223372036854775808) (y % 9223372036854775808) = some r ∧ (double.order r 4670232813583204352 == some .eq) = false := fun ⟨r, h1, h2⟩ => ⟨r, h1, by rw [h2]; rfl⟩
  rcases cases_word x with ⟨v, hv⟩ | ⟨s, hs⟩ | ⟨s, t, hs⟩
  · rcases cases_word y with ⟨u, hu⟩ | ⟨s, hs⟩ | ⟨s, t, hs⟩
    · by_cases hb : 9007199254740992 * U ≤ v.natAbs + u.natAbs
      · obtain ⟨r, h1, h2⟩ := add_great (val_abs hv) (val_abs hu) (Int.natCast_nonneg _) (Int.natCast_nonneg _) (by
          have := Int.ofNat_le.2 hb; rw [Int.natCast_add, Int.natCast_mul] at this; exact this)
        exact fin ⟨r, h1, great_order h2 wh_16384 (by decide)⟩
      · obtain ⟨h1, h2⟩ := hw v u hv hu (by omega)
        have k1 := whV_small (v := v) (by omega)
        have k2 := whV_small (v := u) (by omega)
        have e1 := of_decide_eq_true h1
        have e2 := of_decide_eq_true h2
        have a1 : v.natAbs = (cutI v).natAbs * U := by
          have := congrArg Int.natAbs e1; rwa [Int.natAbs_mul, Int.natAbs_natCast] at this
        have a2 : u.natAbs = (cutI u).natAbs * U := by
          have := congrArg Int.natAbs e2; rwa [Int.natAbs_mul, Int.natAbs_natCast] at this
        have hs : (v.natAbs : Int) + (u.natAbs : Int) = (((cutI v).natAbs + (cutI u).natAbs : Nat) : Int) * (U : Int) := by
          rw [← Int.natCast_mul, Nat.add_mul, ← a1, ← a2, Int.natCast_add]
        have hlt : (cutI v).natAbs + (cutI u).natAbs < 9007199254740992 := by
          rw [a1, a2, ← Nat.add_mul] at hb
          rcases Nat.lt_or_ge ((cutI v).natAbs + (cutI u).natAbs) 9007199254740992 with hh | hh
          · exact hh
          · exact absurd (Nat.mul_le_mul_right U hh) hb
        obtain ⟨r, h3, h4⟩ := add_int (val_abs hv) (val_abs hu) hs (by rw [Int.natAbs_natCast]; exact hlt)
        refine ⟨r, h3, ?_⟩
        rw [wh_order h4 wh_16384, cmp_eq]
        refine decide_eq_false fun e => h ⟨cutI v, cutI u, whV_wh hv h1, whV_wh hu h2, ?_⟩
        omega
    · exact fin (add_inf_r (by rw [read_abs, hs]) (val_abs hv))
    · exact absurd hs (hy s t)
  · refine fin (add_inf_l (by rw [read_abs, hs]) ?_)
    rcases cases_word y with ⟨u, hu⟩ | ⟨s, hs⟩ | ⟨s, t, hs⟩
    · exact .inl ⟨_, val_abs hu⟩
    · right; rw [read_abs, hs]
    · exact absurd hs (hy s t)
  · exact absurd hs (hx s t)

set_option maxRecDepth 100000 in
set_option maxHeartbeats 1000000 in
theorem right_yes (x y : Nat) (n m : Int) (h : Dia x y n m) (hx : x < 18446744073709551616) (hy : y < 18446744073709551616) (w : World) :
    Calls Try.prog 12 #[.complex .f64 x y] w fun e w' => e = .returned (.bool true) ∧ w = w' := by
  obtain ⟨h1, h2, h3⟩ := h
  have c1 : ∀ w, Calls Try.prog 28 #[.float .f64 x] w fun e w' => e = .returned (.bool true) ∧ w = w' := fun w => by
    have := whole_val x _ h1 (by rw [cutI_whole]; omega) w; rwa [whV_yes] at this
  have c2 : ∀ w, Calls Try.prog 28 #[.float .f64 y] w fun e w' => e = .returned (.bool true) ∧ w = w' := fun w => by
    have := whole_val y _ h2 (by rw [cutI_whole]; omega) w; rwa [whV_yes] at this
  have a1 := val_abs h1
  have a2 := val_abs h2
  rw [Int.natAbs_mul, Int.natAbs_natCast, Int.natCast_mul] at a1 a2
  obtain ⟨r, h4, h5⟩ := add_int a1 a2 (k := 16384) (by rw [← Int.add_mul]; congr 1; omega) (by decide)
  have h6 := run_add h4
  have c3 := fun w => abs_any x w hx
  have c4 := fun w => abs_any y w hy
  have ho : (FloatKind.f64.format.order r 4670232813583204352 == some Ordering.eq) = true := by show (double.order _ _ == _) = _; rw [wh_order h5 wh_16384]; rfl
  clear h1 h2 h3 a1 a2 h4 h5 hx hy
  generalize x % 9223372036854775808 = xa at *
  generalize y % 9223372036854775808 = ya at *
  go_enter Try.func12, Try.ntmps12
  go_wp2_with fail
  refine (c1 _).mono ?_; rintro e w' ⟨rfl, rfl⟩
  go_wp2_with fail
  refine (c2 _).mono ?_; rintro e w' ⟨rfl, rfl⟩
  go_wp2_with fail
  refine (c3 _).mono ?_; rintro e w' ⟨rfl, rfl⟩
  go_wp2_with fail
  refine (c4 _).mono ?_; rintro e w' ⟨rfl, rfl⟩
  go_wp2
  go_ret
  exact ⟨ret_b rfl, rfl⟩
set_option maxHeartbeats 400000 in
/-- The first part is not whole. -/
theorem right_no1 (x y : Nat) (w : World) (hc : ∀ w, Calls Try.prog 28 #[.float .f64 x] w fun e w' => e = .returned (.bool false) ∧ Below w.heap.size w w') :
    Calls Try.prog 12 #[.complex .f64 x y] w fun e w' => e = .returned (.bool false) ∧ Below w.heap.size w w' := by
  go_enter Try.func12, Try.ntmps12
  go_wp2_with fail
  refine (hc _).mono ?_; rintro e w' ⟨rfl, hb⟩
  go_wp2
  go_ret
  exact ⟨ret_b rfl, hb⟩
set_option maxHeartbeats 400000 in
/-- The second part is not whole. -/
theorem right_no2 (x y : Nat) (w : World) (hc : ∀ w, Calls Try.prog 28 #[.float .f64 x] w fun e w' => (∃ r, e = .returned (.bool r)) ∧ w = w') (hd : ∀ w, Calls Try.prog 28 #[.float .f64 y] w fun e w' => e = .returned (.bool false) ∧ Below w.heap.size w w') :
    Calls Try.prog 12 #[.complex .f64 x y] w fun e w' => e = .returned (.bool false) ∧ Below w.heap.size w w' := by
  go_enter Try.func12, Try.ntmps12
  go_wp2_with fail
  refine (hc _).mono ?_; rintro e w' ⟨⟨r, rfl⟩, rfl⟩
  cases r
  · go_wp2
    go_ret
    exact ⟨ret_b rfl, Below.refl _ _⟩
  · go_wp2_with fail
    refine (hd _).mono ?_; rintro e w' ⟨rfl, hb⟩
    go_wp2
    go_ret
    exact ⟨ret_b rfl, hb⟩
set_option maxRecDepth 100000 in
set_option maxHeartbeats 1000000 in
/-- The sizes are not a quarter together. -/
theorem right_no3 (x y r : Nat) (w : World) (hx : x < 18446744073709551616) (hy : y < 18446744073709551616) (hc : ∀ w, Calls Try.prog 28 #[.float .f64 x] w fun e w' => (∃ r, e = .returned (.bool r)) ∧ w = w') (hd : ∀ w, Calls Try.prog 28 #[.float .f64 y] w fun e w' => (∃ r, e = .returned (.bool r)) ∧ w = w')
    (h4 : double.add (x % 9223372036854775808) (y % 9223372036854775808) = some r) (h5 : (double.order r 4670232813583204352 == some .eq) = false) :
    Calls Try.prog 12 #[.complex .f64 x y] w fun e w' => e = .returned (.bool false) ∧ Below w.heap.size w w' := by
  have h6 := run_add h4
  have c3 := fun w => abs_any x w hx
  have c4 := fun w => abs_any y w hy
  have ho : (FloatKind.f64.format.order r 4670232813583204352 == some Ordering.eq) = false := h5
  clear h4 h5 hx hy
  generalize x % 9223372036854775808 = xa at *
  generalize y % 9223372036854775808 = ya at *
  go_enter Try.func12, Try.ntmps12
  go_wp2_with fail
  refine (hc _).mono ?_; rintro e w' ⟨⟨r1, rfl⟩, rfl⟩
  cases r1
  · go_wp2
    go_ret
    exact ⟨ret_b rfl, Below.refl _ _⟩
  · go_wp2_with fail
    refine (hd _).mono ?_; rintro e w' ⟨⟨r2, rfl⟩, rfl⟩
    cases r2
    · go_wp2
      go_ret
      exact ⟨ret_b rfl, Below.refl _ _⟩
    · go_wp2_with fail
      refine (c3 _).mono ?_; rintro e w' ⟨rfl, rfl⟩
      go_wp2_with fail
      refine (c4 _).mono ?_; rintro e w' ⟨rfl, rfl⟩
      go_wp2
      go_ret
      exact ⟨ret_b rfl, Below.refl _ _⟩

theorem below_of {P : Program} {f : FuncId} {args : Array Value} {w : World} {R : Ending → Prop} (h : Calls P f args w fun e w' => R e ∧ w = w') : Calls P f args w fun e w' => R e ∧ Below w.heap.size w w' :=
  h.mono fun _ _ ⟨he, hw⟩ => ⟨he, hw ▸ Below.refl _ _⟩

theorem right_no (x y : Nat) (h : ¬ ∃ n m, Dia x y n m) (hx : x < 18446744073709551616) (hy : y < 18446744073709551616) (w : World) :
    Calls Try.prog 12 #[.complex .f64 x y] w fun e w' => e = .returned (.bool false) ∧ Below w.heap.size w w' := by
  by_cases nx : ∃ s t, double.read x = .nan s t
  · obtain ⟨s, t, hn⟩ := nx
    exact right_no1 x y w fun w => whole_nan x s t hn w
  have nx' : ∀ s t, double.read x ≠ .nan s t := fun s t e => nx ⟨s, t, e⟩
  by_cases ny : ∃ s t, double.read y = .nan s t
  · obtain ⟨s, t, hn⟩ := ny
    exact right_no2 x y w (fun w => whole_some x nx' w) fun w => whole_nan y s t hn w
  have ny' : ∀ s t, double.read y ≠ .nan s t := fun s t e => ny ⟨s, t, e⟩
  by_cases hw : ∀ v u, Val x v → Val y u → v.natAbs + u.natAbs < 9007199254740992 * U → whV v = true ∧ whV u = true
  · obtain ⟨r, h1, h2⟩ := sum_not x y h nx' ny' hw
    exact right_no3 x y r w hx hy (fun w => whole_some x nx' w) (fun w => whole_some y ny' w) h1 h2
  · have : ∃ v u, Val x v ∧ Val y u ∧ v.natAbs + u.natAbs < 9007199254740992 * U ∧ ¬ (whV v = true ∧ whV u = true) := by
      refine Classical.byContradiction fun hh => hw fun v u h1 h2 h3 => Classical.byContradiction fun h4 => hh ⟨v, u, h1, h2, h3, h4⟩
    obtain ⟨v, u, h1, h2, h3, h4⟩ := this
    have k1 := whV_small (v := v) (by omega)
    have k2 := whV_small (v := u) (by omega)
    cases e1 : whV v with
    | false =>
      refine right_no1 x y w fun w => ?_
      have := whole_val x v h1 k1 w
      rw [e1] at this
      exact below_of this
    | true =>
      have e2 : whV u = false := by
        cases e2 : whV u with
        | false => rfl
        | true => exact absurd ⟨e1, e2⟩ h4
      refine right_no2 x y w (fun w => whole_some x nx' w) fun w => ?_
      have := whole_val y u h2 k2 w
      rw [e2] at this
      exact below_of this
end Go.Proofs.Ytjljojnedaclgaa
