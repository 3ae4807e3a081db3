/- 'WaitTells': waits, what is due, over, plans, what is left: for any numbers, the table of waits laid. -/
import Derived.Test.YtjkhancjfaegiaaDoorTWakes
set_option linter.unusedVariables false
set_option maxRecDepth 100000
set_option linter.unusedSimpArgs false
namespace Go.Proofs.YtjkhancjfaegiaaDoor
open Go.RowKit Go.Shelf Ms

set_option maxHeartbeats 4000000 in
theorem tells_walk (W : World) (hT : TabW W) (s : Int) (w0 : (Lit.int .i64 s).wf = true) (t : Int) (w1 : (Lit.int .i64 t).wf = true) (n : Int) (w2 : (Lit.int .i64 n).wf = true) :
    Calls Tryd.prog 3 #[.int .i64 s, .int .i64 t, .int .i64 n] W fun e w' => e = .returned (.bool true) ∧ Below W.heap.size W w' := by
  have hs := num_wf w0
  have hT0 := hT.size
  have HT := Lib.hid hT
  have a1 := fun w h => Wait_any t w h
  have b1 := fun w => Wait_ref t w
  have a2 := fun w h => Due_any s t n w h
  have b2 := fun w => Due_ref s t n w
  have a3 := fun w h => Over_any s t n w h
  have b3 := fun w => Over_ref s t n w
  have a4 := fun w h => Plan_any s w hs h
  have b4 := fun w => Plan_ref s w hs
  have a5 := fun w h => Left_any s t n w h
  have b5 := fun w => Left_ref s t n w
  unfold planC at a4 b4
  have WK := Lib.hid wakes_any
  clear hT w0 w1 w2
  generalize atI s 1 = p1 at *
  generalize atI s 2 = p2 at *
  generalize atI s 3 = p3 at *
  generalize atI s 4 = p4 at *
  generalize wN t = v at *
  generalize dueB s t n = d at *
  generalize overB s t n = o at *
  generalize leftI s t n = l at *
  go_enter Tryd.func3, Tryd.ntmps3
  have H := Below.refl W.heap.size W
  go_wp2_with fail
  refine (a1 _ (HT.out.below hT0 H)).mono ?_; rintro e w' ⟨rfl, rfl⟩
  go_wp2_with fail
  refine (b1 _).mono ?_; rintro e w' ⟨rfl, rfl⟩
  go_wp2_with fail
  refine (a2 _ (HT.out.below hT0 H)).mono ?_; rintro e w1 ⟨rfl, hb⟩
  replace H := H.trans (hb.mono H.size)
  clear hb
  go_wp2_with fail
  refine (b2 _).mono ?_; rintro e w' ⟨rfl, rfl⟩
  go_wp2_with fail
  refine (a3 _ (HT.out.below hT0 H)).mono ?_; rintro e w2 ⟨rfl, hb⟩
  replace H := H.trans (hb.mono H.size)
  clear hb
  go_wp2_with fail
  refine (b3 _).mono ?_; rintro e w' ⟨rfl, rfl⟩
  go_wp2_with fail
  refine (a4 _ (HT.out.below hT0 H)).mono ?_; rintro e w3 ⟨rfl, hb⟩
  replace H := H.trans (hb.mono H.size)
  clear hb
  go_wp2_with fail
  refine (b4 _).mono ?_; rintro e w4 ⟨rfl, hb⟩
  replace H := H.trans (hb.mono H.size)
  clear hb
  go_wp2_with (first
    | (with_reducible show wpList _ _ _ (Oper.mk _ (Op.binOp BinOp.eql 24 _ _ _) _ _ _ _ :: _) _ _
       refine wpList_eqArr rfl _ _ rfl rfl rfl egP (run_same4 _ _ _ _ _) ?_))
  refine (a5 _ (HT.out.below hT0 H)).mono ?_; rintro e w' ⟨rfl, rfl⟩
  go_wp2_with fail
  refine (b5 _).mono ?_; rintro e w' ⟨rfl, rfl⟩
  go_wp2_with fail
  refine (WK.out _ (HT.out.below hT0 H)).mono ?_; rintro e w5 ⟨rfl, hb⟩
  replace H := H.trans (hb.mono H.size)
  clear hb
  go_wp2
  go_ret
  exact ⟨rfl, H⟩
end Go.Proofs.YtjkhancjfaegiaaDoor
