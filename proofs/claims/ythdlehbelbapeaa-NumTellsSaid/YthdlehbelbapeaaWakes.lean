/- What the document says of 0, of 300, of a list: 'wakes' answers true wherever it is called. -/
import Derived.Test.YthdlehbelbapeaaRefInts
namespace Go.Proofs.Ythdlehbelbapeaa
open Go.RowKit Go.Shelf

theorem Sl.lit (w : World) (t : TypeId) (xs : List Value) (hm : xs.length ≤ maxLen := by decide) : Sl (w.alloc (.cells xs.toArray t)) (.slice (some ⟨w.heap.size, 0, none⟩) xs.length xs.length) xs := by
  refine .inr ⟨w.heap.size, 0, xs.length, rfl, Nat.le_refl _, hm, by simp, fun j u hu => ?_⟩
  rw [cell_of_row _ w.heap.size (0 + j) xs.toArray t (0, 0) (heap_alloc_new w _)]
  simpa using hu

theorem same_below (va vb : Value) (la lb : List UInt8) (w : World) (h1 : Sl w va (bv la)) (h2 : Sl w vb (bv lb)) :
    Calls Try.prog 14 #[va, vb] w fun e w' => e = .returned (.bool (decide (la = lb))) ∧ Below w.heap.size w w' :=
  (same_any va vb la lb w h1 h2).mono fun _ _ ⟨he, hw⟩ => ⟨he, hw ▸ Below.refl _ _⟩
theorem dig_1 : dig 1 = [1] := by rw [dig_pos 1 (by decide), show 1 / 256 = 0 from rfl, dig_zero]; rfl
theorem dig_300 : dig 300 = [1, 44] := by rw [dig_pos 300 (by decide), show 300 / 256 = 1 from rfl, dig_1]; rfl
theorem num_0 : num 0 = [0] := by rw [num, dig_zero]; rfl
theorem num_1 : num 1 = [1, 1] := by rw [num, dig_1]; rfl
theorem num_300 : num 300 = [2, 1, 44] := by rw [num, dig_300]; rfl
theorem putE_0 : putE 0 = 0 := by decide
theorem putB_0 : putB 0 = [0] := by rw [putB, if_pos (by decide)]; exact num_0
theorem putE_300 : putE 300 = 0 := by decide
theorem putB_300 : putB 300 = [2, 1, 44] := by rw [putB, if_pos (by decide)]; exact num_300
theorem listE_10 : listE [1, 0] = 0 := by decide
theorem listBy_10 : listBy [1, 0] = [2, 1, 1, 0] := by
  rw [listBy, if_pos (by decide)]
  simp only [numsI, nums, List.map_cons, List.map_nil, List.flatMap_cons, List.flatMap_nil, show Int.toNat 1 = 1 from rfl, show Int.toNat 0 = 0 from rfl, num_0, num_1]
  rfl
theorem takeE_a : takeE [2, 1, 44, 9] = (300, 3, 0) := by decide
theorem restT_a : restT [2, 1, 44, 9] = [9] := by rw [restT, takeE_a]; rfl
theorem takeE_b : takeE [1, 0] = (0, 0, 12) := by decide
theorem restT_b : restT [1, 0] = [] := by rw [restT, takeE_b]; rfl
theorem takeE_c : takeE [1] = (0, 0, 11) := by decide
theorem restT_c : restT [1] = [] := by rw [restT, takeE_c]; rfl
theorem takeT_a : takeT [2, 97, 98, 7] = ([97, 98], [7], 0) := by decide
theorem takeL_a : takeL [2, 1, 1, 0, 5] = ([1, 0], [5], 0) := by decide
theorem textE_a : textE [97, 98] = 0 := by decide
theorem textB_a : textB [97, 98] = [2, 97, 98] := by decide

set_option maxRecDepth 100000 in
set_option maxHeartbeats 4000000 in
theorem wakes_any (w : World) : Calls Try.prog 9 #[] w fun e w' => e = .returned (.bool true) ∧ Below w.heap.size w w' := by
  go_enter Try.func9, Try.ntmps9
  have H : Below w.heap.size w w := Below.refl _ _
  go_wp2_with fail
  refine (Put_any 0 _).mono ?_
  rintro e w1 ⟨v1, rfl, s1, hb⟩
  simp only [putE_0, putB_0]
  simp only [putE_0, putB_0] at s1
  replace H := H.trans (hb.mono H.size)
  clear hb
  go_wp2_with fail
  refine (Put_any 300 _).mono ?_
  rintro e w2 ⟨v2, rfl, s2, hb⟩
  simp only [putE_300, putB_300]
  simp only [putE_300, putB_300] at s2
  replace s1 := s1.below hb
  replace H := H.trans (hb.mono H.size)
  clear hb
  go_wp2_with fail
  refine (List_any _ [1, 0] _ (Sl.lit _ 3 (iv [1, 0]))).mono ?_
  rintro e w3 ⟨v3, rfl, s3, hb⟩
  simp only [listE_10, listBy_10]
  simp only [listE_10, listBy_10] at s3
  replace s1 := (s1.alloc _).below hb
  replace s2 := (s2.alloc _).below hb
  replace H := (H.alloc H.size _).trans (hb.mono (by have := H.size; simp; omega))
  clear hb
  go_wp2_with fail
  refine (Take_any _ [2, 1, 44, 9] _ (Sl.lit _ 5 (bv [2, 1, 44, 9])) (by decide)).mono ?_
  rintro e w4 ⟨v4, rfl, s4, hb⟩
  simp only [takeE_a, restT_a]
  simp only [takeE_a, restT_a] at s4
  replace s1 := (s1.alloc _).below hb
  replace s2 := (s2.alloc _).below hb
  replace s3 := (s3.alloc _).below hb
  replace H := (H.alloc H.size _).trans (hb.mono (by have := H.size; simp; omega))
  clear hb
  go_wp2_with fail
  refine (Take_any _ [1, 0] _ (Sl.lit _ 5 (bv [1, 0])) (by decide)).mono ?_
  rintro e w5 ⟨v5, rfl, s5, hb⟩
  simp only [takeE_b, restT_b]
  simp only [takeE_b, restT_b] at s5
  replace s1 := (s1.alloc _).below hb
  replace s2 := (s2.alloc _).below hb
  replace s3 := (s3.alloc _).below hb
  replace s4 := (s4.alloc _).below hb
  replace H := (H.alloc H.size _).trans (hb.mono (by have := H.size; simp; omega))
  clear hb
  go_wp2_with fail
  refine (Take_any _ [1] _ (Sl.lit _ 5 (bv [1])) (by decide)).mono ?_
  rintro e w6 ⟨v6, rfl, s6, hb⟩
  simp only [takeE_c, restT_c]
  simp only [takeE_c, restT_c] at s6
  replace s1 := (s1.alloc _).below hb
  replace s2 := (s2.alloc _).below hb
  replace s3 := (s3.alloc _).below hb
  replace s4 := (s4.alloc _).below hb
  replace H := (H.alloc H.size _).trans (hb.mono (by have := H.size; simp; omega))
  clear hb
  go_wp2_with fail
  refine (TakeText_any _ [2, 97, 98, 7] _ (Sl.lit _ 5 (bv [2, 97, 98, 7])) (by decide)).mono ?_
  rintro e w7 ⟨v7, rfl, s7, hb⟩
  simp only [takeT_a]
  simp only [takeT_a] at s7
  replace s1 := (s1.alloc _).below hb
  replace s2 := (s2.alloc _).below hb
  replace s3 := (s3.alloc _).below hb
  replace s4 := (s4.alloc _).below hb
  replace H := (H.alloc H.size _).trans (hb.mono (by have := H.size; simp; omega))
  clear hb
  go_wp2_with fail
  refine (Text_any _ _).mono ?_
  rintro e w8 ⟨v8, rfl, s8, hb⟩
  simp only [textE_a, textB_a]
  simp only [textE_a, textB_a] at s8
  replace s1 := s1.below hb
  replace s2 := s2.below hb
  replace s3 := s3.below hb
  replace s4 := s4.below hb
  replace s7 := s7.below hb
  replace H := H.trans (hb.mono H.size)
  clear hb
  go_wp2_with fail
  refine (TakeList_any _ [2, 1, 1, 0, 5] _ (Sl.lit _ 5 (bv [2, 1, 1, 0, 5])) (by decide)).mono ?_
  rintro e w9 ⟨v9, v10, rfl, s9, s10, hb⟩
  simp only [takeL_a]
  simp only [takeL_a] at s9 s10
  replace s1 := (s1.alloc _).below hb
  replace s2 := (s2.alloc _).below hb
  replace s3 := (s3.alloc _).below hb
  replace s4 := (s4.alloc _).below hb
  replace s7 := (s7.alloc _).below hb
  replace s8 := (s8.alloc _).below hb
  replace H := (H.alloc H.size _).trans (hb.mono (by have := H.size; simp; omega))
  clear hb
  go_wp2_with fail
  refine (same_below _ _ [0] [0] _ (s1.alloc _) (Sl.lit _ 5 (bv [0]))).mono ?_
  rintro e w10 ⟨rfl, hb⟩
  simp only [decide_true]
  replace s2 := (s2.alloc _).below hb
  replace s3 := (s3.alloc _).below hb
  replace s4 := (s4.alloc _).below hb
  replace s7 := (s7.alloc _).below hb
  replace s8 := (s8.alloc _).below hb
  replace s9 := (s9.alloc _).below hb
  replace s10 := (s10.alloc _).below hb
  replace H := (H.alloc H.size _).trans (hb.mono (by have := H.size; simp; omega))
  clear hb
  go_wp2_with fail
  refine (same_below _ _ [2, 1, 44] [2, 1, 44] _ (s2.alloc _) (Sl.lit _ 5 (bv [2, 1, 44]))).mono ?_
  rintro e w11 ⟨rfl, hb⟩
  simp only [decide_true]
  replace s3 := (s3.alloc _).below hb
  replace s4 := (s4.alloc _).below hb
  replace s7 := (s7.alloc _).below hb
  replace s8 := (s8.alloc _).below hb
  replace s9 := (s9.alloc _).below hb
  replace s10 := (s10.alloc _).below hb
  replace H := (H.alloc H.size _).trans (hb.mono (by have := H.size; simp; omega))
  clear hb
  go_wp2_with fail
  refine (same_below _ _ [2, 1, 1, 0] [2, 1, 1, 0] _ (s3.alloc _) (Sl.lit _ 5 (bv [2, 1, 1, 0]))).mono ?_
  rintro e w12 ⟨rfl, hb⟩
  simp only [decide_true]
  replace s4 := (s4.alloc _).below hb
  replace s7 := (s7.alloc _).below hb
  replace s8 := (s8.alloc _).below hb
  replace s9 := (s9.alloc _).below hb
  replace s10 := (s10.alloc _).below hb
  replace H := (H.alloc H.size _).trans (hb.mono (by have := H.size; simp; omega))
  clear hb
  go_wp2_with fail
  refine (same_below _ _ [9] [9] _ (s4.alloc _) (Sl.lit _ 5 (bv [9]))).mono ?_
  rintro e w13 ⟨rfl, hb⟩
  simp only [decide_true]
  replace s7 := (s7.alloc _).below hb
  replace s8 := (s8.alloc _).below hb
  replace s9 := (s9.alloc _).below hb
  replace s10 := (s10.alloc _).below hb
  replace H := (H.alloc H.size _).trans (hb.mono (by have := H.size; simp; omega))
  clear hb
  go_wp2_with fail
  refine (same_below _ _ [7] [7] _ (s7.alloc _) (Sl.lit _ 5 (bv [7]))).mono ?_
  rintro e w14 ⟨rfl, hb⟩
  simp only [decide_true]
  replace s8 := (s8.alloc _).below hb
  replace s9 := (s9.alloc _).below hb
  replace s10 := (s10.alloc _).below hb
  replace H := (H.alloc H.size _).trans (hb.mono (by have := H.size; simp; omega))
  clear hb
  go_wp2_with fail
  refine (same_below _ _ [2, 97, 98] [2, 97, 98] _ (s8.alloc _) (Sl.lit _ 5 (bv [2, 97, 98]))).mono ?_
  rintro e w15 ⟨rfl, hb⟩
  simp only [decide_true]
  replace s9 := (s9.alloc _).below hb
  replace s10 := (s10.alloc _).below hb
  replace H := (H.alloc H.size _).trans (hb.mono (by have := H.size; simp; omega))
  clear hb
  go_wp2_with fail
  refine (Ints_any _ _ [1, 0] [1, 0] _ (s9.alloc _) (Sl.lit _ 3 (iv [1, 0])) (by decide)).mono ?_
  rintro e w16 ⟨rfl, hb⟩
  simp only [decide_true]
  replace s10 := (s10.alloc _).below hb
  replace H := (H.alloc H.size _).trans (hb.mono (by have := H.size; simp; omega))
  clear hb
  go_wp2_with fail
  refine (same_below _ _ [5] [5] _ (s10.alloc _) (Sl.lit _ 5 (bv [5]))).mono ?_
  rintro e w17 ⟨rfl, hb⟩
  simp only [decide_true]
  replace H := (H.alloc H.size _).trans (hb.mono (by have := H.size; simp; omega))
  clear hb
  go_wp2_with fail
  go_ret
  exact ⟨rfl, H⟩
end Go.Proofs.Ythdlehbelbapeaa
