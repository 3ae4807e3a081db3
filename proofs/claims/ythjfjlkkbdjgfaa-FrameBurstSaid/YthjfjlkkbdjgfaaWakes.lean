/- What the document says of no bytes: 'wakes' answers true wherever it is called. -/
import Derived.Test.YthjfjlkkbdjgfaaRefs
set_option linter.unusedVariables false
set_option linter.unusedSimpArgs false
namespace Go.Proofs.Ythjfjlkkbdjgfaa
open Go.RowKit Go.Shelf

set_option maxRecDepth 100000 in
set_option maxHeartbeats 4000000 in
theorem wakes_any (w : World) : Calls Try.prog 9 #[] w fun e w' => e = .returned (.bool true) ∧ Below w.heap.size w w' := by
  have a1 := Close_any (.slice none 0 0) [] w (Sl.nil_ w)
  rw [show closeE [] = 0 by decide +kernel, show closeB [] = [71, 1, 0, 0, 111, 252, 89, 127] by decide +kernel] at a1
  have a2 := fun v w h => Open_any v [71, 1, 0, 0, 111, 252, 89, 127] w h
  rw [show openE [71, 1, 0, 0, 111, 252, 89, 127] = 0 by decide +kernel, show openP [71, 1, 0, 0, 111, 252, 89, 127] = [] by decide +kernel] at a2
  have a3 := fun v w h => Open_any v [71, 1, 0, 0] w h
  rw [show openE [71, 1, 0, 0] = 11 by decide +kernel] at a3
  have a4 := fun v w h => Open_any v (List.replicate 9 0) w h
  rw [show openE (List.replicate 9 0) = 12 by decide +kernel] at a4
  have a5 := fun v w h => Close_any v (List.replicate 120 0) w h
  rw [show closeE (List.replicate 120 0) = 2 by decide +kernel] at a5
  have a6 := fun w => Step_any 2147483648#32 false w
  rw [show ((stp 2147483648#32 false).toNat : Int) = 1947962583 by decide +kernel, show ((2147483648#32).toNat : Int) = 2147483648 from rfl] at a6
  have a7 := fun w => Step_any 1#32 true w
  rw [show ((stp 1#32 true).toNat : Int) = 3 by decide +kernel, show ((1#32).toNat : Int) = 1 from rfl] at a7
  have a8 := fun w => Size_any 0 w
  have a9 := fun w => Size_any (-1) w
  have a10 := fun w => Size_any 112 w
  rw [show siz 0 = 8 by decide +kernel] at a8
  rw [show siz (-1) = 0 by decide +kernel] at a9
  rw [show siz 112 = 120 by decide +kernel] at a10
  go_enter Try.func9, Try.ntmps9
  have H := Below.refl w.heap.size w
  go_wp2_with fail
  refine a1.mono ?_; rintro e w1 ⟨v1, rfl, hs1, hb⟩
  replace H := H.trans (hb.mono H.size)
  clear hb
  go_wp2_with fail
  refine (a2 _ _ hs1).mono ?_; rintro e w2 ⟨v2, rfl, hs2, hb⟩
  replace hs1 := hs1.below hb
  replace H := H.trans (hb.mono H.size)
  clear hb
  go_wp2_with fail
  refine (a3 _ _ (Sl.lit _ (bv [71, 1, 0, 0]) 5 _ (by rfl) (by decide))).mono ?_; rintro e w3 ⟨v3, rfl, _, hb⟩
  replace hs1 := (hs1.alloc _).below hb
  replace H := (H.alloc H.size (.cells (bv [71, 1, 0, 0]).toArray 5)).trans (hb.mono (Nat.le_trans H.size (by simp)))
  clear hb
  have hr9 : List.replicate 9 (Value.int .u8 0) = bv (List.replicate 9 0) := rfl
  have hr120 : List.replicate 120 (Value.int .u8 0) = bv (List.replicate 120 0) := by unfold bv; rw [List.map_replicate]; rfl
  have HR9 := Lib.hid hr9
  have HR120 := Lib.hid hr120
  clear hr9 hr120
  go_wp2_with (at_make; refine wpList_zeros el23 rfl rfl _ _ rfl 9 rfl rfl (by decide) (by decide) ?_; intro w4 hm4; rw [HR9.out] at hm4)
  refine (a4 _ _ hm4.sl).mono ?_; rintro e w5 ⟨v5, rfl, _, hb⟩
  replace hs1 := (hs1.below hm4.below).below hb
  replace H := (H.trans (hm4.below.mono H.size))
  replace H := H.trans (hb.mono H.size)
  clear hb hm4
  go_wp2_with (at_make; refine wpList_zeros el23 rfl rfl _ _ rfl 120 rfl rfl (by decide) (by decide) ?_; intro w6 hm6; rw [HR120.out] at hm6)
  refine (a5 _ _ hm6.sl).mono ?_; rintro e w7 ⟨v7, rfl, _, hb⟩
  replace hs1 := (hs1.below hm6.below).below hb
  replace H := (H.trans (hm6.below.mono H.size))
  replace H := H.trans (hb.mono H.size)
  clear hb hm6
  obtain ⟨A1, c1, rfl⟩ := hs1.form
  rw [show (bv [71, 1, 0, 0, 111, 252, 89, 127]).length = 8 from rfl] at *
  obtain ⟨b, off, rfl, _, e0⟩ := hs1.at_ 0 (by decide)
  obtain ⟨b', off', hA, _, e1⟩ := hs1.at_ 1 (by decide)
  injection hA with hA; injection hA with hA1 hA2; subst hA1 hA2
  obtain ⟨b', off', hA, _, e2⟩ := hs1.at_ 2 (by decide)
  injection hA with hA; injection hA with hA1 hA2; subst hA1 hA2
  obtain ⟨b', off', hA, _, e3⟩ := hs1.at_ 3 (by decide)
  injection hA with hA; injection hA with hA1 hA2; subst hA1 hA2
  obtain ⟨A2, c2, rfl⟩ := hs2.form
  rw [show (bv []).length = 0 from rfl] at *
  replace e0 : w7.cell? ⟨b, off, none⟩ = some (.int .u8 71) := e0
  replace e1 : w7.cell? ⟨b, off + 1, none⟩ = some (.int .u8 1) := e1
  replace e2 : w7.cell? ⟨b, off + 2, none⟩ = some (.int .u8 0) := e2
  replace e3 : w7.cell? ⟨b, off + 3, none⟩ = some (.int .u8 0) := e3
  clear hs1 hs2
  go_wp2_with fail
  refine (a6 _).mono ?_; rintro e w' ⟨rfl, rfl⟩
  go_wp2_with fail
  refine (a7 _).mono ?_; rintro e w' ⟨rfl, rfl⟩
  go_wp2_with fail
  refine (a8 _).mono ?_; rintro e w' ⟨rfl, rfl⟩
  go_wp2_with fail
  refine (a9 _).mono ?_; rintro e w' ⟨rfl, rfl⟩
  go_wp2_with fail
  refine (a10 _).mono ?_; rintro e w' ⟨rfl, rfl⟩
  go_wp2
  go_ret
  exact ⟨rfl, H⟩
end Go.Proofs.Ythjfjlkkbdjgfaa
