/- 'CompassBack': points tell places, and places points: for every two places, any two parts. -/
import Derived.Test.YtjljojnedaclgaaBeside
set_option linter.unusedVariables false
set_option linter.unusedSimpArgs false
namespace Go.Proofs.Ytjljojnedaclgaa
open Go.RowKit Go.Shelf
open Ieee (double)
attribute [local go_sem] unary_neg_float unary_neg_complex

theorem fits_of {x y : Nat} (hx : (Lit.float .f64 x).wf = true) (hy : (Lit.float .f64 y).wf = true) : Fits x y := by
  simp [Lit.wf] at hx hy
  exact ⟨hx, hy⟩
/-- Points of unlike places are unlike in one part at least. -/
theorem pt_uneq {x y x' y' : Nat} {p q : Int} (h : Pt x y p) (k : Pt x' y' q) (e : p ≠ q) : (FloatKind.f64.format.order x x' == some Ordering.eq) = false ∨ ((FloatKind.f64.format.order x x' == some Ordering.eq) = true ∧ (FloatKind.f64.format.order y y' == some Ordering.eq) = false) := by
  rw [eq_int h.2.1 k.2.1, eq_int h.2.2 k.2.2]
  by_cases h1 : px p = px q
  · by_cases h2 : py p = py q
    · exact absurd (Pt.inj h ⟨k.1, by rw [← h1]; exact h.2.1, by rw [← h2]; exact h.2.2⟩) e
    · exact .inr ⟨decide_eq_true h1, decide_eq_false h2⟩
  · exact .inl (decide_eq_false h1)
/-- The sizes of a point's parts are a quarter together. -/
theorem pt_sum {x y : Nat} {n m : Int} (h : Dia x y n m) : ∃ M1 M2 s, (∀ (ts : Array TypeId) (t : TypeId) (w : World), (Builtin.max_ ts t #[.float .f64 x, .float .f64 (Op.negFloat .f64 x)]).run Try.prog w = .ok (.float .f64 M1) w) ∧
    (∀ (ts : Array TypeId) (t : TypeId) (w : World), (Builtin.max_ ts t #[.float .f64 y, .float .f64 (Op.negFloat .f64 y)]).run Try.prog w = .ok (.float .f64 M2) w) ∧
    (∀ w : World, (binOp .add 22 (.float .f64 M1) (.float .f64 M2)).run Try.prog w = .ok (.float .f64 s) w) ∧ (FloatKind.f64.format.order s 4670232813583204352 == some Ordering.eq) = true := by
  obtain ⟨M1, m1, v1⟩ := max_wh h.1
  obtain ⟨M2, m2, v2⟩ := max_wh h.2.1
  have h3 := h.2.2
  obtain ⟨s, e, v3⟩ := wh_add v1 v2 (by omega)
  exact ⟨M1, M2, s, m1, m2, run_add e, by rw [eq_int v3 wh_16384]; simp; omega⟩

set_option maxRecDepth 100000 in
set_option maxHeartbeats 4000000 in
theorem back_walk (W : World) (p : Int) (w0 : (Lit.int .i64 p).wf = true) (q : Int) (w1 : (Lit.int .i64 q).wf = true) (x : Nat) (w2 : (Lit.float .f64 x).wf = true) (y : Nat) (w3 : (Lit.float .f64 y).wf = true) :
    Calls Try.prog 4 #[.int .i64 p, .int .i64 q, .float .f64 x, .float .f64 y] W fun e w' => e = .returned (.bool true) ∧ Below W.heap.size W w' := by
  have hp := bounds_i64 w0
  have hq := bounds_i64 w1
  have hf := fits_of w2 w3
  have hb1 := tmod_bd p 65536 (by omega)
  have hb2 := tmod_bd q 65536 (by omega)
  clear w0 w1 w2 w3
  obtain ⟨P, hP⟩ : ∃ P, (p.tmod 65536 + 65536) % 65536 = P := ⟨_, rfl⟩
  have hP0 : 0 ≤ P := by omega
  have hP1 : P < 65536 := by omega
  obtain ⟨Q, hQ⟩ : ∃ Q, (q.tmod 65536 + 65536) % 65536 = Q := ⟨_, rfl⟩
  have hQ0 : 0 ≤ Q := by omega
  have hQ1 : Q < 65536 := by omega
  have a1 := fun w => At_yes P ⟨hP0, hP1⟩ w
  have a2 := fun w => At_yes Q ⟨hQ0, hQ1⟩ w
  have HXY := Lib.hid hf
  clear hf
  go_enter Try.func4, Try.ntmps4
  go_wp2_with fail
  refine (a1 _).mono ?_; rintro e w1 ⟨⟨ax, ay, rfl, hz, hzf⟩, H⟩
  have HA := Lib.hid hz
  have HAF := Lib.hid hzf
  clear hz hzf
  go_wp2_with fail
  refine (a2 _).mono ?_; rintro e w2 ⟨⟨bx, bz, rfl, hz, _⟩, hb⟩
  have HB := Lib.hid hz
  replace H := H.trans (hb.mono H.size)
  clear hb hz
  go_wp2_with fail
  refine (Of_yes ax ay P HA.out HAF.out _).mono ?_; rintro e w3 ⟨rfl, hb⟩
  replace H := H.trans (hb.mono H.size)
  clear hb
  obtain ⟨M1, M2, s, m1, m2, m3, g3⟩ := pt_sum HA.out.dia
  have g4 : (FloatKind.f64.format.order s 4670232813583204352 != some Ordering.eq) = false := by simp only [bne, g3]; decide
  have rest : ∀ (K : Prop), ((P == Q) = true ∧ (FloatKind.f64.format.order ax bx == some Ordering.eq) = true ∧ (FloatKind.f64.format.order ay bz == some Ordering.eq) = true → K) → ((P == Q) = false ∧ (FloatKind.f64.format.order ax bx == some Ordering.eq) = false → K) →
      ((P == Q) = false ∧ (FloatKind.f64.format.order ax bx == some Ordering.eq) = true ∧ (FloatKind.f64.format.order ay bz == some Ordering.eq) = false → K) → K := fun K k1 k2 k3 => by
    by_cases h : P = Q
    · obtain ⟨e1, e2⟩ := pt_eqs HA.out HB.out h
      exact k1 ⟨by simp [h], e1, e2⟩
    · rcases pt_uneq HA.out HB.out h with e1 | ⟨e1, e2⟩
      · exact k2 ⟨by simp [h], e1⟩
      · exact k3 ⟨by simp [h], e1, e2⟩
  refine rest _ ?_ ?_ ?_
  all_goals
    rintro hcase
    clear rest
    first
      | obtain ⟨c1, c2, c3⟩ := hcase
      | obtain ⟨c1, c2⟩ := hcase
    go_wp2_with fail
    refine (right_yes ax ay _ _ HA.out.dia HAF.out.1 HAF.out.2 _).mono ?_; rintro e w4 ⟨rfl, rfl⟩
    go_wp2_with fail
    by_cases hpt : ∃ m, Pt x y m
    · obtain ⟨m, hm⟩ := hpt
      have hm0 := hm.1.1
      have hm1 := hm.1.2
      have HM := Lib.hid hm
      clear hm
      refine (Of_yes x y m HM.out HXY.out _).mono ?_; rintro e w5 ⟨rfl, hb⟩
      replace H := H.trans (hb.mono H.size)
      clear hb
      go_wp2_with fail
      refine (At_yes m ⟨hm0, hm1⟩ _).mono ?_; rintro e w6 ⟨⟨cx, cy, rfl, hz, _⟩, hb⟩
      replace H := H.trans (hb.mono H.size)
      obtain ⟨d1, d2⟩ := pt_eqs hz HM.out rfl
      clear hb hz
      go_wp2_with fail
      refine (wakes_any _).mono ?_; rintro e w7 ⟨rfl, hb⟩
      replace H := H.trans (hb.mono H.size)
      clear hb
      go_wp2
      go_ret
      exact ⟨rfl, H⟩
    · refine (Of_no x y hpt HXY.out _).mono ?_; rintro e w5 ⟨rfl, hb⟩
      replace H := H.trans (hb.mono H.size)
      clear hb hpt
      go_wp2_with fail
      refine (wakes_any _).mono ?_; rintro e w7 ⟨rfl, hb⟩
      replace H := H.trans (hb.mono H.size)
      clear hb
      go_wp2
      go_ret
      exact ⟨rfl, H⟩
end Go.Proofs.Ytjljojnedaclgaa
