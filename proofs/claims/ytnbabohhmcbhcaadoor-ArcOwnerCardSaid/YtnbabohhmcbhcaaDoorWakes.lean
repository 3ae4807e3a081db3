/- What the document says of 65535 and 1: 'wakes' answers true wherever it is called, the table of starts laid. -/
import Derived.Test.YtnbabohhmcbhcaaDoorRises
import Derived.Test.YtnbabohhmcbhcaaDoorStart
set_option linter.unusedVariables false
set_option linter.unusedSimpArgs false
namespace Go.Proofs.YtnbabohhmcbhcaaDoor
open Go.RowKit Go.Shelf

/-- An array literal's slice. -/
theorem Sl.lit (w : World) (xs : List Value) (t : TypeId) (n : Nat) (hn : xs.length = n) (hm : n ≤ 1000000) : Sl (w.alloc (.cells xs.toArray t)) (.slice (some ⟨w.heap.size, 0, none⟩) n n) xs := by
  subst hn
  refine .inr ⟨w.heap.size, 0, xs.length, rfl, Nat.le_refl _, by unfold maxLen; omega, by simp, fun j u hu => ?_⟩
  have hb : (w.alloc (.cells xs.toArray t)).heap[w.heap.size]? = some (.cells xs.toArray t (0, 0)) := World.alloc_heap_new w _
  unfold World.cell?
  dsimp only
  rw [hb]
  simpa using hu
theorem below_drewN {W w' : World} (h : ∃ m, w' = W.drewN m) : Below W.heap.size W w' := by
  obtain ⟨m, rfl⟩ := h
  exact ⟨rfl, rfl, rfl, Nat.le_refl _, fun _ _ => rfl⟩
theorem num_lit {l : List Int} (h : (l.all fun z => decide (-1000000 ≤ z ∧ z ≤ 1000000)) = true) : ∀ z ∈ l, Num z := fun z hz => by
  have := List.all_eq_true.1 h z hz
  simp at this
  exact num_small this.1 this.2

set_option maxRecDepth 100000 in
set_option maxHeartbeats 4000000 in
theorem wakes_any (w : World) (hT : Tab w) : Calls Tryd.prog 9 #[] w fun e w' => e = .returned (.bool true) ∧ Below w.heap.size w w' := by
  have hT0 := hT.size
  have HT := Lib.hid hT
  have a1 := fun A n c w (h : Sl w (.slice A n c) (iv [5, 9, 65530])) => owner_any A n c _ 10 w h (num_lit (by decide)) ⟨by omega, by omega⟩
  have a2 := fun w => owner_any none 0 0 [] 3 w (Sl.nil_ w) (by simp) ⟨by omega, by omega⟩
  have a3 := fun w => far_any 65535 1 w ⟨by omega, by omega⟩ ⟨by omega, by omega⟩
  have a4 := fun w => in_any 65535 0 1 w ⟨by omega, by omega⟩ ⟨by omega, by omega⟩ ⟨by omega, by omega⟩
  have a5 := fun w => in_any 65535 1 1 w ⟨by omega, by omega⟩ ⟨by omega, by omega⟩ ⟨by omega, by omega⟩
  have a6 := fun w => upTo_any 65535 1 1 w ⟨by omega, by omega⟩ ⟨by omega, by omega⟩ ⟨by omega, by omega⟩
  have a7 := fun w => place_any (-1) w ⟨by omega, by omega⟩
  have a8 := fun w h => start_any 65535 1 w ⟨by omega, by omega⟩ ⟨by omega, by omega⟩ h
  have a9 := fun w h => start_any 3 16 w ⟨by omega, by omega⟩ ⟨by omega, by omega⟩ h
  have a10 := fun A n c w (h : Sl w (.slice A n c) (iv [10, 65535, 8])) => rises_any A n c _ 9 w h (num_lit (by decide)) ⟨by omega, by omega⟩
  have a11 := fun A n c w (h : Sl w (.slice A n c) (iv [10, 9])) => rises_any A n c _ 9 w h (num_lit (by decide)) ⟨by omega, by omega⟩
  have a12 := fun A n c w (h : Sl w (.slice A n c) (iv [9])) => rises_any A n c _ 9 w h (num_lit (by decide)) ⟨by omega, by omega⟩
  have a13 := fun w => rises_any none 0 0 [] 0 w (Sl.nil_ w) (by simp) ⟨by omega, by omega⟩
  have a14 := fun w => in_any 4 5 4 w ⟨by omega, by omega⟩ ⟨by omega, by omega⟩ ⟨by omega, by omega⟩
  have a15 := fun w => in_any 4 4 4 w ⟨by omega, by omega⟩ ⟨by omega, by omega⟩ ⟨by omega, by omega⟩
  rw [show own 10 [5, 9, 65530] = 65530 by decide +kernel, show decide (([5, 9, 65530] : List Int) ≠ []) = true by decide] at a1
  rw [show own 3 [] = 0 by decide +kernel, show decide (([] : List Int) ≠ []) = false by decide] at a2
  rw [show far 65535 1 = 2 by decide] at a3
  rw [show inB 65535 0 1 = true by decide] at a4
  rw [show inB 65535 1 1 = false by decide] at a5
  rw [show upB 65535 1 1 = true by decide] at a6
  rw [show pl (-1) = 65535 by decide] at a7
  rw [show stI 65535 1 = 1 by decide] at a8
  rw [show stI 3 16 = 3 by decide] at a9
  rw [show ris 9 [10, 65535, 8] = true by decide +kernel] at a10
  rw [show ris 9 [10, 9] = false by decide +kernel] at a11
  rw [show ris 9 [9] = false by decide +kernel] at a12
  rw [show ris 0 [] = true by decide +kernel] at a13
  rw [show inB 4 5 4 = true by decide] at a14
  rw [show inB 4 4 4 = false by decide] at a15
  clear hT
  go_enter Tryd.func9, Tryd.ntmps9
  have H := Below.refl w.heap.size w
  go_wp2_with fail
  refine (a1 _ _ _ _ (Sl.lit _ (iv [5, 9, 65530]) 3 _ (by rfl) (by decide))).mono ?_; rintro e w1 ⟨rfl, hb⟩
  replace H := (H.alloc H.size (.cells (iv [5, 9, 65530]).toArray 3)).trans (hb.mono (Nat.le_trans H.size (by simp)))
  clear hb
  go_wp2_with fail
  refine (a2 _).mono ?_; rintro e w2 ⟨rfl, hb⟩
  replace H := H.trans (hb.mono H.size)
  clear hb
  go_wp2_with fail
  refine (a3 _).mono ?_; rintro e w' ⟨rfl, rfl⟩
  go_wp2_with fail
  refine (a4 _).mono ?_; rintro e w' ⟨rfl, rfl⟩
  go_wp2_with fail
  refine (a5 _).mono ?_; rintro e w' ⟨rfl, rfl⟩
  go_wp2_with fail
  refine (a6 _).mono ?_; rintro e w' ⟨rfl, rfl⟩
  go_wp2_with fail
  refine (a7 _).mono ?_; rintro e w' ⟨rfl, rfl⟩
  go_wp2_with fail
  refine (a8 _ (HT.out.below hT0 H)).mono ?_; rintro e w3 ⟨rfl, hm⟩
  replace H := H.trans ((below_drewN hm).mono H.size)
  clear hm
  go_wp2_with fail
  refine (a9 _ (HT.out.below hT0 H)).mono ?_; rintro e w4 ⟨rfl, hm⟩
  replace H := H.trans ((below_drewN hm).mono H.size)
  clear hm
  go_wp2_with fail
  refine (a10 _ _ _ _ (Sl.lit _ (iv [10, 65535, 8]) 3 _ (by rfl) (by decide))).mono ?_; rintro e w5 ⟨rfl, hb⟩
  replace H := (H.alloc H.size (.cells (iv [10, 65535, 8]).toArray 3)).trans (hb.mono (Nat.le_trans H.size (by simp)))
  clear hb
  go_wp2_with fail
  refine (a11 _ _ _ _ (Sl.lit _ (iv [10, 9]) 3 _ (by rfl) (by decide))).mono ?_; rintro e w6 ⟨rfl, hb⟩
  replace H := (H.alloc H.size (.cells (iv [10, 9]).toArray 3)).trans (hb.mono (Nat.le_trans H.size (by simp)))
  clear hb
  go_wp2_with fail
  refine (a12 _ _ _ _ (Sl.lit _ (iv [9]) 3 _ (by rfl) (by decide))).mono ?_; rintro e w7 ⟨rfl, hb⟩
  replace H := (H.alloc H.size (.cells (iv [9]).toArray 3)).trans (hb.mono (Nat.le_trans H.size (by simp)))
  clear hb
  go_wp2_with fail
  refine (a13 _).mono ?_; rintro e w8 ⟨rfl, hb⟩
  replace H := H.trans (hb.mono H.size)
  clear hb
  go_wp2_with fail
  refine (a14 _).mono ?_; rintro e w' ⟨rfl, rfl⟩
  go_wp2_with fail
  refine (a15 _).mono ?_; rintro e w' ⟨rfl, rfl⟩
  go_wp2
  go_ret
  exact ⟨rfl, H⟩
end Go.Proofs.YtnbabohhmcbhcaaDoor
