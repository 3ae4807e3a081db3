/- What the document says of a call from 10 on: 'wakes' answers true wherever it is called, the table of waits laid. -/
import Derived.Test.YtjkhancjfaegiaaDoorTEq
set_option linter.unusedVariables false
set_option maxRecDepth 100000
set_option linter.unusedSimpArgs false
namespace Go.Proofs.YtjkhancjfaegiaaDoor
open Go.RowKit Go.Shelf Ms

theorem num_small {n : Int} (h : -1000000 ≤ n) (k : n ≤ 1000000) : Num n := ⟨by omega, by omega⟩
set_option maxHeartbeats 4000000 in
theorem wakes_any (w : World) (hT : TabW w) : Calls Tryd.prog 18 #[] w fun e w' => e = .returned (.bool true) ∧ Below w.heap.size w w' := by
  have hT0 := hT.size
  have HT := Lib.hid hT
  have a1 := fun w h => Plan_any 10 w (num_small (by omega) (by omega)) h
  have a2 := fun w h => Wait_any 1 w h
  have a3 := fun w h => Wait_any 9 w h
  have a4 := fun w h => Wait_any 0 w h
  have a5 := fun w h => Due_any 10 1 11 w h
  have a6 := fun w h => Due_any 10 2 11 w h
  have a7 := fun w h => Due_any 10 3 99 w h
  have a8 := fun w h => Over_any 13 3 17 w h
  have a9 := fun w h => Over_any 13 3 16 w h
  have a10 := fun w h => Left_any 13 3 14 w h
  have a11 := fun w h => Left_any 13 1 99 w h
  rw [show planC 10 = #[.int .i64 10, .int .i64 11, .int .i64 13, .int .i64 17] by rw [planC_is 10 (num_small (by omega) (by omega))]; simp [wr_eq]] at a1
  rw [show wN 1 = 1 by decide] at a2
  rw [show wN 9 = 4 by decide] at a3
  rw [show wN 0 = 0 by decide] at a4
  rw [show dueB 10 1 11 = true by simp [dueB, passB, wN, wr_eq]] at a5
  rw [show dueB 10 2 11 = false by simp [dueB, passB, wN, wr_eq]] at a6
  rw [show dueB 10 3 99 = false by simp [dueB, passB, wN, wr_eq]] at a7
  rw [show overB 13 3 17 = true by simp [overB, passB, wN, wr_eq]] at a8
  rw [show overB 13 3 16 = false by simp [overB, passB, wN, wr_eq]] at a9
  rw [show leftI 13 3 14 = 3 by simp [leftI, wN, wr_eq]; omega] at a10
  rw [show leftI 13 1 99 = 0 by simp [leftI, wN, wr_eq]; omega] at a11
  clear hT
  go_enter Tryd.func18, Tryd.ntmps18
  have H := Below.refl w.heap.size w
  go_wp2_with fail
  refine (a1 _ (HT.out.below hT0 H)).mono ?_; rintro e w1 ⟨rfl, hb⟩
  replace H := H.trans (hb.mono H.size)
  clear hb
  go_wp2_with (first
    | (with_reducible show wpList _ _ _ (Oper.mk _ (Op.binOp BinOp.eql 24 _ _ _) _ _ _ _ :: _) _ _
       refine wpList_eqArr rfl _ _ rfl rfl rfl egP (run_same4 _ _ _ _ _) ?_))
  refine (a2 _ (HT.out.below hT0 H)).mono ?_; rintro e w' ⟨rfl, rfl⟩
  go_wp2_with fail
  refine (a3 _ (HT.out.below hT0 H)).mono ?_; rintro e w' ⟨rfl, rfl⟩
  go_wp2_with fail
  refine (a4 _ (HT.out.below hT0 H)).mono ?_; rintro e w' ⟨rfl, rfl⟩
  go_wp2_with fail
  refine (a5 _ (HT.out.below hT0 H)).mono ?_; rintro e w2 ⟨rfl, hb⟩
  replace H := H.trans (hb.mono H.size)
  clear hb
  go_wp2_with fail
  refine (a6 _ (HT.out.below hT0 H)).mono ?_; rintro e w3 ⟨rfl, hb⟩
  replace H := H.trans (hb.mono H.size)
  clear hb
  go_wp2_with fail
  refine (a7 _ (HT.out.below hT0 H)).mono ?_; rintro e w4 ⟨rfl, hb⟩
  replace H := H.trans (hb.mono H.size)
  clear hb
  go_wp2_with fail
  refine (a8 _ (HT.out.below hT0 H)).mono ?_; rintro e w5 ⟨rfl, hb⟩
  replace H := H.trans (hb.mono H.size)
  clear hb
  go_wp2_with fail
  refine (a9 _ (HT.out.below hT0 H)).mono ?_; rintro e w6 ⟨rfl, hb⟩
  replace H := H.trans (hb.mono H.size)
  clear hb
  go_wp2_with fail
  refine (a10 _ (HT.out.below hT0 H)).mono ?_; rintro e w' ⟨rfl, rfl⟩
  go_wp2_with fail
  refine (a11 _ (HT.out.below hT0 H)).mono ?_; rintro e w' ⟨rfl, rfl⟩
  go_wp2
  go_ret
  exact ⟨rfl, H⟩
end Go.Proofs.YtjkhancjfaegiaaDoor
