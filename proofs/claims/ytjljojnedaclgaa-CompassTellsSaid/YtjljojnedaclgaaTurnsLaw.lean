/- 'CompassTurns': a quarter on is once turned; back it is as it was: for every place, any number of quarters. -/
import Derived.Test.YtjljojnedaclgaaWakes
import Derived.Test.YtjljojnedaclgaaRow
set_option linter.unusedVariables false
set_option linter.unusedSimpArgs false
namespace Go.Proofs.Ytjljojnedaclgaa
open Go.RowKit Go.Shelf
open Ieee (double)
attribute [local go_sem] unary_neg_float unary_neg_complex

theorem pt_eqs {x y x' y' : Nat} {p q : Int} (h : Pt x y p) (k : Pt x' y' q) (e : p = q) : (FloatKind.f64.format.order x x' == some Ordering.eq) = true ∧ (FloatKind.f64.format.order y y' == some Ordering.eq) = true := by
  subst e
  rw [eq_int h.2.1 k.2.1, eq_int h.2.2 k.2.2]
  simp
theorem pt_half {x y : Nat} {p : Int} (h : Pt x y p) : Pt (Op.negFloat .f64 x) (Op.negFloat .f64 y) ((p + 32768) % 65536) := by
  have := pt_step (pt_step h)
  rwa [show ((p + 16384) % 65536 + 16384) % 65536 = (p + 32768) % 65536 by omega] at this

set_option maxRecDepth 100000 in
set_option maxHeartbeats 4000000 in
theorem turns_walk (W : World) (p : Int) (w0 : (Lit.int .i64 p).wf = true) (quarters : Int) (w1 : (Lit.int .i64 quarters).wf = true) :
    Calls Try.prog 5 #[.int .i64 p, .int .i64 quarters] W fun e w' => e = .returned (.bool true) ∧ Below W.heap.size W w' := by
  have hp := bounds_i64 w0
  have hq := bounds_i64 w1
  have hb1 := tmod_bd p 65536 (by omega)
  have hb2 := tmod_bd quarters 1000 (by omega)
  clear w0 w1
  obtain ⟨P, hP⟩ : ∃ P, (p.tmod 65536 + 65536) % 65536 = P := ⟨_, rfl⟩
  have hP0 : 0 ≤ P := by omega
  have hP1 : P < 65536 := by omega
  obtain ⟨K, hK⟩ : ∃ K, quarters.tmod 1000 = K := ⟨_, rfl⟩
  rw [hK] at hb2
  have hb3 := tmod_bd (P + 16384 * K) 65536 (by omega)
  obtain ⟨F, hF⟩ : ∃ F, ((P + 16384 * K).tmod 65536 + 65536) % 65536 = F := ⟨_, rfl⟩
  have hFe : F = (P + 16384 * K) % 65536 := by rw [← hF, rest_eq]
  have a1 := fun w => At_yes P ⟨hP0, hP1⟩ w
  have a2 := fun w => At_yes ((P + 16384) % 65536) ⟨by omega, by omega⟩ w
  have a4 := fun w => At_yes F ⟨by omega, by omega⟩ w
  have HF := Lib.hid hFe
  clear hFe
  go_enter Try.func5, Try.ntmps5
  go_wp2_with fail
  refine (a1 _).mono ?_; rintro e w1 ⟨⟨x, y, rfl, hz, hzf⟩, H⟩
  have HZ := Lib.hid hz
  have HZF := Lib.hid hzf
  clear hz hzf
  go_wp2_with fail
  refine (a2 _).mono ?_; rintro e w2 ⟨⟨ox, oy, rfl, hz, _⟩, hb⟩
  have HO := Lib.hid hz
  replace H := H.trans (hb.mono H.size)
  clear hb hz
  go_wp2_with fail
  refine (Turned_yes x y P K HZ.out HZF.out ⟨by omega, by omega⟩ _).mono ?_; rintro e w3 ⟨⟨wx, wy, rfl, hz, hzf⟩, hb⟩
  have HWZ := Lib.hid hz
  have HWF := Lib.hid hzf
  replace H := H.trans (hb.mono H.size)
  clear hb hz hzf
  go_wp2_with fail
  refine (a4 _).mono ?_; rintro e w4 ⟨⟨fx, fy, rfl, hz, _⟩, hb⟩
  have HFZ := Lib.hid hz
  replace H := H.trans (hb.mono H.size)
  clear hb hz
  go_wp2_with fail
  refine (Turned_yes x y P 1 HZ.out HZF.out ⟨by omega, by omega⟩ _).mono ?_; rintro e w5 ⟨⟨x5, y5, rfl, hz, _⟩, hb⟩
  obtain ⟨g1, g2⟩ := pt_eqs hz HO.out (by omega)
  obtain ⟨g3, g4⟩ := pt_eqs HWZ.out HFZ.out (by rw [HF.out])
  replace H := H.trans (hb.mono H.size)
  clear hb hz
  go_wp2_with fail
  refine (Turned_yes wx wy _ (-K) HWZ.out HWF.out ⟨by omega, by omega⟩ _).mono ?_; rintro e w6 ⟨⟨x6, y6, rfl, hz, _⟩, hb⟩
  obtain ⟨g5, g6⟩ := pt_eqs hz HZ.out (by omega)
  replace H := H.trans (hb.mono H.size)
  clear hb hz
  go_wp2_with fail
  refine (Turned_yes x y P 4 HZ.out HZF.out ⟨by omega, by omega⟩ _).mono ?_; rintro e w7 ⟨⟨x7, y7, rfl, hz, _⟩, hb⟩
  obtain ⟨g7, g8⟩ := pt_eqs hz HZ.out (by omega)
  replace H := H.trans (hb.mono H.size)
  clear hb hz
  go_wp2_with fail
  refine (Turned_yes x y P 2 HZ.out HZF.out ⟨by omega, by omega⟩ _).mono ?_; rintro e w8 ⟨⟨x8, y8, rfl, hz, _⟩, hb⟩
  obtain ⟨g9, g10⟩ := pt_eqs hz (pt_half HZ.out) (by omega)
  replace H := H.trans (hb.mono H.size)
  clear hb hz
  go_wp2_with fail
  refine (wakes_any _).mono ?_; rintro e w9 ⟨rfl, hb⟩
  replace H := H.trans (hb.mono H.size)
  clear hb
  go_wp2
  go_ret
  exact ⟨rfl, H⟩
end Go.Proofs.Ytjljojnedaclgaa
