/- What the document says of 1, of what is no point: 'wakes' answers true wherever it is called. -/
import Derived.Test.YtjljojnedaclgaaRefs
set_option linter.unusedVariables false
set_option linter.unusedSimpArgs false
namespace Go.Proofs.Ytjljojnedaclgaa
open Go.RowKit Go.Shelf
open Ieee (double)

theorem wh_16383 : Wh 4670232263827390464 16383 := nearest_eq _ (by decide) (by decide +kernel)
theorem wh_m16384 : Wh 13893604850437980160 (-16384) := nearest_eq _ (by decide) (by decide +kernel)
theorem wh_8000 : Wh 4665518107723300864 8000 := nearest_eq _ (by decide) (by decide +kernel)
theorem pt_of {x y : Nat} {n m : Int} (p : Int) (hp : Place p) (h1 : Wh x n) (h2 : Wh y m) (e1 : px p = n) (e2 : py p = m) : Pt x y p := ⟨hp, by rw [e1]; exact h1, by rw [e2]; exact h2⟩
theorem half_not (y : Nat) : ¬ ∃ p, Pt 4602678819172646912 y p := by
  rintro ⟨p, _, h, _⟩
  have h1 := wh_order h wh_0
  have h2 := wh_order h wh_1
  rw [show double.order 4602678819172646912 0 = some .gt by decide +kernel] at h1
  rw [show double.order 4602678819172646912 4607182418800017408 = some .lt by decide +kernel] at h2
  rw [cmp_def] at h1 h2
  split at h1
  · cases h1
  · split at h1
    · cases h1
    · split at h2
      · omega
      · split at h2 <;> cases h2
theorem not_8000 : ¬ ∃ p, Pt 4665518107723300864 4665518107723300864 p := fun h => by
  obtain ⟨n, m, h1, h2, h3⟩ := (pt_iff _ _).1 h
  rw [← wh_inj wh_8000 h1, ← wh_inj wh_8000 h2] at h3
  omega
theorem not_0 : ¬ ∃ p, Pt 0 0 p := fun h => by
  obtain ⟨n, m, h1, h2, h3⟩ := (pt_iff _ _).1 h
  rw [← wh_inj wh_0 h1, ← wh_inj wh_0 h2] at h3
  omega
theorem order_00 : (FloatKind.f64.format.order 0 0 == some Ordering.eq) = true := by rw [eq_int wh_0 wh_0]; rfl

set_option maxRecDepth 100000 in
set_option maxHeartbeats 4000000 in
theorem wakes_any (w : World) : Calls Try.prog 20 #[] w fun e w' => e = .returned (.bool true) ∧ Below w.heap.size w w' := by
  have a1 := fun w => At_yes 1 ⟨by omega, by omega⟩ w
  have a2 := fun w => Of_yes 13893604850437980160 0 32768 (pt_of 32768 ⟨by omega, by omega⟩ wh_m16384 wh_0 (by decide) (by decide)) ⟨by omega, by omega⟩ w
  have a3 := fun w => At_no 65536 (by unfold Place; omega) ⟨by omega, by omega⟩ w
  have a4 := fun w => Of_no _ _ not_8000 ⟨by omega, by omega⟩ w
  have a5 := fun w => right_yes 0 13893604850437980160 _ _ (pt_of 49152 ⟨by omega, by omega⟩ wh_0 wh_m16384 (by decide) (by decide)).dia (by omega) (by omega) w
  have a6 := fun w => right_no 4602678819172646912 4670232538705297408 (fun k => half_not _ ((pt_iff _ _).2 k)) (by omega) (by omega) w
  have a8 := fun w => Turned_no 0 0 1 not_0 ⟨by omega, by omega⟩ w
  have a9 := fun w => place_any (-1) w ⟨by omega, by omega⟩
  have a10 := fun w => quarter_any 16384 w ⟨by omega, by omega⟩
  have a11 := fun w => quarter_any (-1) w ⟨by omega, by omega⟩
  rw [show (-1 : Int) % 65536 = 65535 by decide] at a9
  rw [show quB 16384 = 1 by decide] at a10
  rw [show quB (-1) = -1 by decide] at a11
  have h00 := order_00
  go_enter Try.func20, Try.ntmps20
  go_wp2_with fail
  refine (a1 _).mono ?_; rintro e w1 ⟨⟨x, y, rfl, hp, hf⟩, hb⟩
  have g1 : (FloatKind.f64.format.order x 4670232263827390464 == some Ordering.eq) = true := by rw [eq_int hp.2.1 wh_16383]; decide
  have g2 : (FloatKind.f64.format.order y 4607182418800017408 == some Ordering.eq) = true := by rw [eq_int hp.2.2 wh_1]; decide
  have a7 := fun w => Turned_yes x y 1 1 hp hf ⟨by omega, by omega⟩ w
  have H := hb
  clear hb hp hf
  go_wp2_with fail
  refine (a2 _).mono ?_; rintro e w2 ⟨rfl, hb⟩
  replace H := H.trans (hb.mono H.size)
  clear hb
  go_wp2_with fail
  refine (a3 _).mono ?_; rintro e w3 ⟨rfl, hb⟩
  replace H := H.trans (hb.mono H.size)
  clear hb
  go_wp2_with fail
  refine (a4 _).mono ?_; rintro e w4 ⟨rfl, hb⟩
  replace H := H.trans (hb.mono H.size)
  clear hb
  go_wp2_with fail
  refine (a5 _).mono ?_; rintro e w5 ⟨rfl, rfl⟩
  go_wp2_with fail
  refine (a6 _).mono ?_; rintro e w6 ⟨rfl, hb⟩
  replace H := H.trans (hb.mono H.size)
  clear hb
  go_wp2_with fail
  refine (a7 _).mono ?_; rintro e w7 ⟨⟨x', y', rfl, hp, _⟩, hb⟩
  have g3 : (FloatKind.f64.format.order x' 13830554455654793216 == some Ordering.eq) = true := by rw [eq_int hp.2.1 wh_m1]; decide
  have g4 : (FloatKind.f64.format.order y' 4670232263827390464 == some Ordering.eq) = true := by rw [eq_int hp.2.2 wh_16383]; decide
  replace H := H.trans (hb.mono H.size)
  clear hb hp
  go_wp2_with fail
  refine (a8 _).mono ?_; rintro e w8 ⟨rfl, hb⟩
  replace H := H.trans (hb.mono H.size)
  clear hb
  go_wp2_with fail
  refine (a9 _).mono ?_; rintro e w9 ⟨rfl, rfl⟩
  go_wp2_with fail
  refine (a10 _).mono ?_; rintro e w10 ⟨rfl, rfl⟩
  go_wp2_with fail
  refine (a11 _).mono ?_; rintro e w11 ⟨rfl, rfl⟩
  go_wp2
  go_ret
  exact ⟨rfl, H⟩
end Go.Proofs.Ytjljojnedaclgaa
