/- 'CompassTells': points, places, which are, turned ones, rests, quarters are as the document tells: for any number, any two parts. -/
import Derived.Test.YtjljojnedaclgaaNotLaw
set_option linter.unusedVariables false
set_option linter.unusedSimpArgs false
namespace Go.Proofs.Ytjljojnedaclgaa
open Go.RowKit Go.Shelf
open Ieee (double)

theorem fits_0 : Fits 0 0 := ⟨by omega, by omega⟩
/-- Both answers of a number turned: the same. -/
def TurnsTo (f : FuncId) (x y : Nat) (on : Int) (r : Nat × Nat → Prop) : Prop := ∀ w : World, Calls Try.prog f #[.complex .f64 x y, .int .i64 on] w fun e w' => (∃ x' y', e = .returned (.complex .f64 x' y') ∧ r (x', y')) ∧ Below w.heap.size w w'
theorem turns_both (x y : Nat) (on : Int) (hf : Fits x y) (hon : Num on) : ∃ r : Nat × Nat → Prop, TurnsTo 14 x y on r ∧ TurnsTo 15 x y on r ∧ ∀ a b, r a → r b → (FloatKind.f64.format.order a.1 b.1 == some Ordering.eq) = true ∧ (FloatKind.f64.format.order a.2 b.2 == some Ordering.eq) = true := by
  by_cases h : ∃ p, Pt x y p
  · obtain ⟨p, hp⟩ := h
    refine ⟨fun a => Pt a.1 a.2 ((p + 16384 * on) % 65536), fun w => ?_, fun w => ?_, fun a b h k => pt_eqs h k rfl⟩
    · exact (Turned_yes x y p on hp hf hon w).mono fun e w' ⟨⟨x', y', he, h, _⟩, hb⟩ => ⟨⟨x', y', he, h⟩, hb⟩
    · exact (TurnedR_yes x y p on hp hon w).mono fun e w' ⟨⟨x', y', he, h, _⟩, hb⟩ => ⟨⟨x', y', he, h⟩, hb ▸ Below.refl _ _⟩
  · refine ⟨fun a => a = (0, 0), fun w => ?_, fun w => ?_, ?_⟩
    · exact (Turned_no x y on h hf w).mono fun e w' ⟨he, hb⟩ => ⟨⟨0, 0, he, rfl⟩, hb⟩
    · exact (TurnedR_no x y on h w).mono fun e w' ⟨he, hb⟩ => ⟨⟨0, 0, he, rfl⟩, hb ▸ Below.refl _ _⟩
    · rintro a b rfl rfl
      exact ⟨order_00, order_00⟩
/-- Both answers of a number's place: the same, and whether there is one. -/
theorem ofs_both (x y : Nat) (hf : Fits x y) : ∃ (n c : Int) (b : Bool), (∀ w, Calls Try.prog 10 #[.complex .f64 x y] w fun e w' => e = .returned (.tuple #[.int .i64 n, .int .i64 c]) ∧ Below w.heap.size w w') ∧
    (∀ w, Calls Try.prog 11 #[.complex .f64 x y] w fun e w' => e = .returned (.tuple #[.int .i64 n, .int .i64 c]) ∧ w = w') ∧
    (∀ w, Calls Try.prog 12 #[.complex .f64 x y] w fun e w' => e = .returned (.bool b) ∧ Below w.heap.size w w') ∧ (∀ w, Calls Try.prog 13 #[.complex .f64 x y] w fun e w' => e = .returned (.bool b) ∧ w = w') := by
  by_cases h : ∃ p, Pt x y p
  · obtain ⟨p, hp⟩ := h
    exact ⟨p, 0, true, fun w => Of_yes x y p hp hf w, fun w => OfR_yes x y p hp w, fun w => below_of (right_yes x y _ _ hp.dia hf.1 hf.2 w), fun w => RightR_yes x y p hp w⟩
  · exact ⟨0, 2, false, fun w => Of_no x y h hf w, fun w => OfR_no x y h w, fun w => right_no x y (fun k => h ((pt_iff x y).2 k)) hf.1 hf.2 w, fun w => RightR_no x y h w⟩
/-- Both answers of a place's point: the same. -/
theorem ats_both (p : Int) (hp : Num p) : ∃ (c : Int) (r : Nat × Nat → Prop), (∀ w, Calls Try.prog 8 #[.int .i64 p] w fun e w' => (∃ x y, e = .returned (.tuple #[.complex .f64 x y, .int .i64 c]) ∧ r (x, y)) ∧ Below w.heap.size w w') ∧
    (∀ w, Calls Try.prog 9 #[.int .i64 p] w fun e w' => (∃ x y, e = .returned (.tuple #[.complex .f64 x y, .int .i64 c]) ∧ r (x, y) ∧ Fits x y) ∧ w = w') ∧
    ∀ a b, r a → r b → (FloatKind.f64.format.order a.1 b.1 == some Ordering.eq) = true ∧ (FloatKind.f64.format.order a.2 b.2 == some Ordering.eq) = true := by
  by_cases h : Place p
  · refine ⟨0, fun a => Pt a.1 a.2 p, fun w => ?_, fun w => ?_, fun a b h k => pt_eqs h k rfl⟩
    · exact (At_yes p h w).mono fun e w' ⟨⟨x', y', he, h, _⟩, hb⟩ => ⟨⟨x', y', he, h⟩, hb⟩
    · exact (AtR_yes p h w).mono fun e w' ⟨⟨x', y', he, h, k⟩, hb⟩ => ⟨⟨x', y', he, h, k⟩, hb⟩
  · refine ⟨2, fun a => a = (0, 0), fun w => ?_, fun w => ?_, ?_⟩
    · exact (At_no p h hp w).mono fun e w' ⟨he, hb⟩ => ⟨⟨0, 0, he, rfl⟩, hb⟩
    · exact (AtR_no p h w).mono fun e w' ⟨he, hb⟩ => ⟨⟨0, 0, he, rfl, fits_0⟩, hb⟩
    · rintro a b rfl rfl
      exact ⟨order_00, order_00⟩

set_option maxRecDepth 100000 in
set_option maxHeartbeats 8000000 in
theorem tells_walk (W : World) (p : Int) (w0 : (Lit.int .i64 p).wf = true) (quarters : Int) (w1 : (Lit.int .i64 quarters).wf = true) (x : Nat) (w2 : (Lit.float .f64 x).wf = true) (y : Nat) (w3 : (Lit.float .f64 y).wf = true) :
    Calls Try.prog 3 #[.int .i64 p, .int .i64 quarters, .float .f64 x, .float .f64 y] W fun e w' => e = .returned (.bool true) ∧ Below W.heap.size W w' := by
  have hp := bounds_i64 w0
  have hq := bounds_i64 w1
  have hf := fits_of w2 w3
  obtain ⟨c, r, a1, a2, ar⟩ := ats_both p hp
  obtain ⟨n, d, b, o1, o2, o3, o4⟩ := ofs_both x y hf
  obtain ⟨t, t1, t2, tr⟩ := turns_both x y quarters hf hq
  have p1 := fun w => place_any p w hp
  have p2 := fun w => place_ref p w hp
  have q1 := fun w => quarter_any p w hp
  have q2 := fun w => quarter_ref p w hp
  generalize p % 65536 = pm at p1 p2
  generalize quB p = qm at q1 q2
  have AR := Lib.hid ar
  have TR := Lib.hid tr
  have T1 := Lib.hid t1
  have T2 := Lib.hid t2
  have HQ := Lib.hid hq
  clear ar tr t1 t2 w0 w1 w2 w3 hf hp hq
  go_enter Try.func3, Try.ntmps3
  go_wp2_with fail
  refine (a1 _).mono ?_; rintro e w1 ⟨⟨ax, ay, rfl, hr1⟩, H⟩
  have R1 := Lib.hid hr1
  clear hr1
  go_wp2_with fail
  refine (a2 _).mono ?_; rintro e w2 ⟨⟨bx, bz, rfl, hr2, hf2⟩, rfl⟩
  obtain ⟨g1, g2⟩ := AR.out _ _ R1.out hr2
  simp only at g1 g2
  obtain ⟨u, u1, u2, ur⟩ := turns_both bx bz quarters hf2 HQ.out
  have UR := Lib.hid ur
  have U1 := Lib.hid u1
  have U2 := Lib.hid u2
  clear hr2 hf2 ur u1 u2 a1 a2
  go_wp2_with fail
  refine (o1 _).mono ?_; rintro e w3 ⟨rfl, hb⟩
  replace H := H.trans (hb.mono H.size)
  clear hb
  go_wp2_with fail
  refine (o2 _).mono ?_; rintro e w4 ⟨rfl, rfl⟩
  go_wp2_with fail
  refine (o3 _).mono ?_; rintro e w4 ⟨rfl, hb⟩
  replace H := H.trans (hb.mono H.size)
  clear hb
  go_wp2_with fail
  refine (o4 _).mono ?_; rintro e w5 ⟨rfl, rfl⟩
  go_wp2_with fail
  refine (T1.out _).mono ?_; rintro e w5 ⟨⟨x5, y5, rfl, k5⟩, hb⟩
  have K5 := Lib.hid k5
  replace H := H.trans (hb.mono H.size)
  clear hb k5
  go_wp2_with fail
  refine (T2.out _).mono ?_; rintro e w6 ⟨⟨x6, y6, rfl, k6⟩, hb⟩
  obtain ⟨g3, g4⟩ := TR.out _ _ K5.out k6
  simp only at g3 g4
  replace H := H.trans (hb.mono H.size)
  clear hb k6
  go_wp2_with fail
  refine (U1.out _).mono ?_; rintro e w7 ⟨⟨x7, y7, rfl, k7⟩, hb⟩
  have K7 := Lib.hid k7
  replace H := H.trans (hb.mono H.size)
  clear hb k7
  go_wp2_with fail
  refine (U2.out _).mono ?_; rintro e w8 ⟨⟨x8, y8, rfl, k8⟩, hb⟩
  obtain ⟨g5, g6⟩ := UR.out _ _ K7.out k8
  simp only at g5 g6
  replace H := H.trans (hb.mono H.size)
  clear hb k8
  go_wp2_with fail
  refine (p1 _).mono ?_; rintro e w9 ⟨rfl, rfl⟩
  go_wp2_with fail
  refine (p2 _).mono ?_; rintro e w9 ⟨rfl, rfl⟩
  go_wp2_with fail
  refine (q1 _).mono ?_; rintro e w9 ⟨rfl, rfl⟩
  go_wp2_with fail
  refine (q2 _).mono ?_; rintro e w9 ⟨rfl, rfl⟩
  go_wp2_with fail
  refine (wakes_any _).mono ?_; rintro e w10 ⟨rfl, hb⟩
  replace H := H.trans (hb.mono H.size)
  clear hb
  go_wp2
  go_ret
  exact ⟨rfl, H⟩
end Go.Proofs.Ytjljojnedaclgaa
