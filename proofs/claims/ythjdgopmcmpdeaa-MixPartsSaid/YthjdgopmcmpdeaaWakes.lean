/- What the document says of two places: 'wakes' answers true wherever it is called. -/
import Derived.Test.YthjdgopmcmpdeaaMany
set_option linter.unusedVariables false
set_option linter.unusedSimpArgs false
namespace Go.Proofs.Ythjdgopmcmpdeaa
open Go.RowKit Go.Shelf

/-- An array literal's slice. -/
theorem Sl.lit (w : World) (xs : List Value) (t : TypeId) (n : Nat) (hn : xs.length = n) (hm : n ≤ 1000000) : Sl (w.alloc (.cells xs.toArray t)) (.slice (some ⟨w.heap.size, 0, none⟩) n n) xs := by
  subst hn
  refine .inr ⟨w.heap.size, 0, xs.length, rfl, Nat.le_refl _, by unfold maxLen; omega, by simp, fun j u hu => ?_⟩
  have hb : (w.alloc (.cells xs.toArray t)).heap[w.heap.size]? = some (.cells xs.toArray t (0, 0)) := World.alloc_heap_new w _
  unfold World.cell?
  dsimp only
  rw [hb]
  simpa using hu
theorem Ints_eq (va vb : Value) (l : List Int) (w : World) (h1 : Sl w va (iv l)) (h2 : Sl w vb (iv l)) (hm : l.length ≤ 140737488355328) : Calls Try.prog 19 #[va, vb] w fun e w' => e = .returned (.bool true) ∧ Below w.heap.size w w' := by
  refine (Ints_any va vb l l w h1 h2 hm).mono ?_
  rintro e w' ⟨rfl, hb⟩
  exact ⟨by simp, hb⟩

set_option maxRecDepth 100000 in
set_option maxHeartbeats 4000000 in
theorem wakes_any (w : World) : Calls Try.prog 8 #[] w fun e w' => e = .returned (.bool true) ∧ Below w.heap.size w w' := by
  have a1 := fun w => Of_any ⟨#[97]⟩ w
  have a2 := fun w => Of_any ⟨#[]⟩ w
  have a3 := fun w => Of_any ⟨#[48, 49, 50, 51, 52, 53, 54, 55, 56, 57, 48, 49, 50, 51, 52, 53, 54, 55, 56, 57, 48]⟩ w
  have a4 := fun A n c w (h : Sl w (.slice A n c) (sv [⟨#[97]⟩, ⟨#[98]⟩])) => Row_any A n c _ w h (by decide)
  have a5 := fun w => next_any 0 0 w ⟨by omega, by omega⟩ (by omega)
  have a6 := fun w => next_any 7 97 w ⟨by omega, by omega⟩ (by omega)
  have a7 := fun w => before_any 1 0 w ⟨by omega, by omega⟩ (by omega)
  have a8 := fun w => Go_any 7 ⟨#[97]⟩ w ⟨by omega, by omega⟩ (by decide)
  have a9 := fun w => Go_any (-1) ⟨#[]⟩ w ⟨by omega, by omega⟩ (by decide)
  rw [show ofP [97] = 21475 by decide +kernel, show ofE [97] = 0 by decide +kernel] at a1
  rw [show ofP [] = 0 by decide +kernel, show ofE [] = 2 by decide +kernel] at a2
  rw [show ofP [48, 49, 50, 51, 52, 53, 54, 55, 56, 57, 48, 49, 50, 51, 52, 53, 54, 55, 56, 57, 48] = 0 by decide +kernel, show ofE [48, 49, 50, 51, 52, 53, 54, 55, 56, 57, 48, 49, 50, 51, 52, 53, 54, 55, 56, 57, 48] = 2 by decide +kernel] at a3
  rw [show rowI [⟨#[97]⟩, ⟨#[98]⟩] = [21475, 21476] by decide +kernel, show rowE [⟨#[97]⟩, ⟨#[98]⟩] = 0 by decide +kernel] at a4
  rw [show nx 0 0 = 1 by decide +kernel] at a5
  rw [show nx 7 97 = 21475 by decide +kernel] at a6
  rw [show bf 1 0 = 0 by decide +kernel] at a7
  rw [show go 7 [97] = 21475 by decide +kernel] at a8
  rw [show go (-1) [] = 65535 by decide +kernel] at a9
  go_enter Try.func8, Try.ntmps8
  have H := Below.refl w.heap.size w
  go_wp2_with fail
  refine (a1 _).mono ?_; rintro e w1 ⟨rfl, hb⟩
  replace H := H.trans (hb.mono H.size)
  clear hb
  go_wp2_with fail
  refine (a2 _).mono ?_; rintro e w2 ⟨rfl, hb⟩
  replace H := H.trans (hb.mono H.size)
  clear hb
  go_wp2_with fail
  refine (a3 _).mono ?_; rintro e w3 ⟨rfl, hb⟩
  replace H := H.trans (hb.mono H.size)
  clear hb
  go_wp2_with fail
  refine (a4 _ _ _ _ (Sl.lit _ (sv [⟨#[97]⟩, ⟨#[98]⟩]) 9 _ (by rfl) (by decide))).mono ?_; rintro e w4 ⟨v, rfl, hs, hb⟩
  replace H := (H.alloc H.size (.cells (sv [⟨#[97]⟩, ⟨#[98]⟩]).toArray 9)).trans (hb.mono (Nat.le_trans H.size (by simp)))
  have HV := Lib.hid hs
  clear hb hs
  go_wp2_with fail
  refine (a5 _).mono ?_; rintro e w' ⟨rfl, rfl⟩
  go_wp2_with fail
  refine (a6 _).mono ?_; rintro e w' ⟨rfl, rfl⟩
  go_wp2_with fail
  refine (Ints_eq _ _ _ _ (HV.out.alloc _) (Sl.lit _ (iv [21475, 21476]) 3 _ (by rfl) (by decide)) (by decide)).mono ?_; rintro e w5 ⟨rfl, hb⟩
  replace H := (H.alloc H.size (.cells (iv [21475, 21476]).toArray 3)).trans (hb.mono (Nat.le_trans H.size (by simp)))
  clear hb
  go_wp2_with fail
  refine (a7 _).mono ?_; rintro e w' ⟨rfl, rfl⟩
  go_wp2_with fail
  refine (a8 _).mono ?_; rintro e w6 ⟨rfl, hb⟩
  replace H := H.trans (hb.mono H.size)
  clear hb
  go_wp2_with fail
  refine (a9 _).mono ?_; rintro e w7 ⟨rfl, hb⟩
  replace H := H.trans (hb.mono H.size)
  clear hb
  go_wp2
  go_ret
  exact ⟨rfl, H⟩
end Go.Proofs.Ythjdgopmcmpdeaa
