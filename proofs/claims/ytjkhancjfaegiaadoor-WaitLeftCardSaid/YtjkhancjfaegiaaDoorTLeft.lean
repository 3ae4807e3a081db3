/- 'WaitLeft': a call is due, or over, just when no wait is left, of a try that was; waits do not get shorter with tries: for any numbers, the table of waits laid. -/
import Derived.Test.YtjkhancjfaegiaaDoorTWakes
set_option linter.unusedVariables false
set_option maxRecDepth 100000
set_option linter.unusedSimpArgs false
namespace Go.Proofs.YtjkhancjfaegiaaDoor
open Go.RowKit Go.Shelf Ms

set_option maxHeartbeats 8000000 in
theorem left_walk (W : World) (hT : TabW W) (s : Int) (w0 : (Lit.int .i64 s).wf = true) (t : Int) (w1 : (Lit.int .i64 t).wf = true) (f : Int) (w2 : (Lit.int .i64 f).wf = true) :
    Calls Tryd.prog 5 #[.int .i64 s, .int .i64 t, .int .i64 f] W fun e w' => e = .returned (.bool true) ∧ Below W.heap.size W w' := by
  have hs := num_wf w0
  have ht := num_wf w1
  have hf := num_wf w2
  unfold Num at hs ht hf
  have hT0 := hT.size
  have HT := Lib.hid hT
  have WK := Lib.hid wakes_any
  have H := Below.refl W.heap.size W
  clear hT w0 w1 w2
  by_cases c1 : s < -1099511627776
  · go_enter Tryd.func5, Tryd.ntmps5
    go_wp2_with fail
    refine (WK.out _ (HT.out.below hT0 H)).mono ?_; rintro e w1 ⟨rfl, hb⟩
    replace H := H.trans (hb.mono H.size)
    clear hb
    go_wp2
    go_ret
    exact ⟨rfl, H⟩
  by_cases c2 : 1099511627776 < s
  · go_enter Tryd.func5, Tryd.ntmps5
    go_wp2_with fail
    refine (WK.out _ (HT.out.below hT0 H)).mono ?_; rintro e w1 ⟨rfl, hb⟩
    replace H := H.trans (hb.mono H.size)
    clear hb
    go_wp2
    go_ret
    exact ⟨rfl, H⟩
  by_cases c3 : f < 0
  · go_enter Tryd.func5, Tryd.ntmps5
    go_wp2_with fail
    refine (WK.out _ (HT.out.below hT0 H)).mono ?_; rintro e w1 ⟨rfl, hb⟩
    replace H := H.trans (hb.mono H.size)
    clear hb
    go_wp2
    go_ret
    exact ⟨rfl, H⟩
  by_cases c4 : 1099511627776 < f
  · go_enter Tryd.func5, Tryd.ntmps5
    go_wp2_with fail
    refine (WK.out _ (HT.out.below hT0 H)).mono ?_; rintro e w1 ⟨rfl, hb⟩
    replace H := H.trans (hb.mono H.size)
    clear hb
    go_wp2
    go_ret
    exact ⟨rfl, H⟩
  by_cases c5 : t < 1
  · go_enter Tryd.func5, Tryd.ntmps5
    go_wp2_with fail
    refine (WK.out _ (HT.out.below hT0 H)).mono ?_; rintro e w1 ⟨rfl, hb⟩
    replace H := H.trans (hb.mono H.size)
    clear hb
    go_wp2
    go_ret
    exact ⟨rfl, H⟩
  by_cases c6 : 1099511627776 < t
  · go_enter Tryd.func5, Tryd.ntmps5
    go_wp2_with fail
    refine (WK.out _ (HT.out.below hT0 H)).mono ?_; rintro e w1 ⟨rfl, hb⟩
    replace H := H.trans (hb.mono H.size)
    clear hb
    go_wp2
    go_ret
    exact ⟨rfl, H⟩
  have a1 := fun w h => Left_any s t (s + f) w h
  have a2 := fun w h => Due_any s t (s + f) w h
  have a3 := fun w h => Over_any s t (s + f) w h
  have a4 := fun w h => Left_any s t s w h
  have a5 := fun w h => Wait_any t w h
  have a6 := fun w h => Wait_any (t + 1) w h
  have v0 := wN_bd t
  have v1 : 1 ≤ wN t := by
    unfold wN
    split
    · omega
    · split
      · omega
      · split <;> omega
  have v2 : wN t ≤ wN (t + 1) := by
    unfold wN
    repeat' split
    all_goals omega
  have v3 := wN_bd (t + 1)
  have q1 : wrap64 (s + f - s) = f := by rw [wr_eq]; omega
  have e1 : leftI s t (s + f) = max (wN t - f) 0 := by unfold leftI; rw [q1, IntWalk.wrap64_in _ (by omega)]
  have e2 : leftI s t s = wN t := by unfold leftI; rw [show s - s = 0 by omega, show wrap64 0 = 0 by rw [wr_eq]; omega, IntWalk.wrap64_in _ (by omega)]; omega
  have e3 : passB s t (s + f) = decide (wN t ≤ f) := by unfold passB; rw [q1]
  unfold dueB at a2
  unfold overB at a3
  rw [e1] at a1
  rw [e2] at a4
  rw [e3] at a2 a3
  clear q1 e1 e2 e3
  generalize wN t = v at *
  generalize wN (t + 1) = v' at *
  by_cases hp : v ≤ f
  · have g1 : max (v - f) 0 = 0 := by omega
    rw [g1] at a1
    by_cases h3 : t < 3
    · rw [decide_eq_true hp, decide_eq_true h3, decide_eq_true (show 1 ≤ t by omega)] at a2
      go_enter Tryd.func5, Tryd.ntmps5
      go_wp2_with fail
      refine (a1 _ (HT.out.below hT0 H)).mono ?_; rintro e w' ⟨rfl, rfl⟩
      go_wp2_with fail
      refine (a2 _ (HT.out.below hT0 H)).mono ?_; rintro e w1 ⟨rfl, hb⟩
      replace H := H.trans (hb.mono H.size)
      clear hb
      go_wp2_with fail
      refine (a4 _ (HT.out.below hT0 H)).mono ?_; rintro e w' ⟨rfl, rfl⟩
      go_wp2_with fail
      refine (a5 _ (HT.out.below hT0 H)).mono ?_; rintro e w' ⟨rfl, rfl⟩
      go_wp2_with fail
      refine (a5 _ (HT.out.below hT0 H)).mono ?_; rintro e w' ⟨rfl, rfl⟩
      go_wp2_with fail
      refine (a6 _ (HT.out.below hT0 H)).mono ?_; rintro e w' ⟨rfl, rfl⟩
      go_wp2_with fail
      refine (a5 _ (HT.out.below hT0 H)).mono ?_; rintro e w' ⟨rfl, rfl⟩
      go_wp2_with fail
      refine (a1 _ (HT.out.below hT0 H)).mono ?_; rintro e w' ⟨rfl, rfl⟩
      go_wp2_with fail
      refine (a5 _ (HT.out.below hT0 H)).mono ?_; rintro e w' ⟨rfl, rfl⟩
      go_wp2_with fail
      refine (WK.out _ (HT.out.below hT0 H)).mono ?_; rintro e w3 ⟨rfl, hb⟩
      replace H := H.trans (hb.mono H.size)
      clear hb
      go_wp2
      go_ret
      exact ⟨rfl, H⟩
    · rw [decide_eq_true hp, decide_eq_false h3, decide_eq_true (show 1 ≤ t by omega)] at a2
      rw [decide_eq_true hp, decide_eq_true (show 3 ≤ t by omega)] at a3
      go_enter Tryd.func5, Tryd.ntmps5
      go_wp2_with fail
      refine (a1 _ (HT.out.below hT0 H)).mono ?_; rintro e w' ⟨rfl, rfl⟩
      go_wp2_with fail
      refine (a2 _ (HT.out.below hT0 H)).mono ?_; rintro e w1 ⟨rfl, hb⟩
      replace H := H.trans (hb.mono H.size)
      clear hb
      go_wp2_with fail
      refine (a3 _ (HT.out.below hT0 H)).mono ?_; rintro e w2 ⟨rfl, hb⟩
      replace H := H.trans (hb.mono H.size)
      clear hb
      go_wp2_with fail
      refine (a4 _ (HT.out.below hT0 H)).mono ?_; rintro e w' ⟨rfl, rfl⟩
      go_wp2_with fail
      refine (a5 _ (HT.out.below hT0 H)).mono ?_; rintro e w' ⟨rfl, rfl⟩
      go_wp2_with fail
      refine (a5 _ (HT.out.below hT0 H)).mono ?_; rintro e w' ⟨rfl, rfl⟩
      go_wp2_with fail
      refine (a6 _ (HT.out.below hT0 H)).mono ?_; rintro e w' ⟨rfl, rfl⟩
      go_wp2_with fail
      refine (a5 _ (HT.out.below hT0 H)).mono ?_; rintro e w' ⟨rfl, rfl⟩
      go_wp2_with fail
      refine (a1 _ (HT.out.below hT0 H)).mono ?_; rintro e w' ⟨rfl, rfl⟩
      go_wp2_with fail
      refine (a5 _ (HT.out.below hT0 H)).mono ?_; rintro e w' ⟨rfl, rfl⟩
      go_wp2_with fail
      refine (WK.out _ (HT.out.below hT0 H)).mono ?_; rintro e w3 ⟨rfl, hb⟩
      replace H := H.trans (hb.mono H.size)
      clear hb
      go_wp2
      go_ret
      exact ⟨rfl, H⟩
  · have g1 : max (v - f) 0 = v - f := by omega
    rw [g1] at a1
    rw [decide_eq_false hp, Bool.and_false] at a2 a3
    have g2 : (v - f == 0) = false := by simp; omega
    go_enter Tryd.func5, Tryd.ntmps5
    go_wp2_with fail
    refine (a1 _ (HT.out.below hT0 H)).mono ?_; rintro e w' ⟨rfl, rfl⟩
    go_wp2_with fail
    refine (a2 _ (HT.out.below hT0 H)).mono ?_; rintro e w1 ⟨rfl, hb⟩
    replace H := H.trans (hb.mono H.size)
    clear hb
    go_wp2_with fail
    refine (a3 _ (HT.out.below hT0 H)).mono ?_; rintro e w2 ⟨rfl, hb⟩
    replace H := H.trans (hb.mono H.size)
    clear hb
    go_wp2_with fail
    refine (a4 _ (HT.out.below hT0 H)).mono ?_; rintro e w' ⟨rfl, rfl⟩
    go_wp2_with fail
    refine (a5 _ (HT.out.below hT0 H)).mono ?_; rintro e w' ⟨rfl, rfl⟩
    go_wp2_with fail
    refine (a5 _ (HT.out.below hT0 H)).mono ?_; rintro e w' ⟨rfl, rfl⟩
    go_wp2_with fail
    refine (a6 _ (HT.out.below hT0 H)).mono ?_; rintro e w' ⟨rfl, rfl⟩
    go_wp2_with fail
    refine (a5 _ (HT.out.below hT0 H)).mono ?_; rintro e w' ⟨rfl, rfl⟩
    go_wp2_with fail
    refine (a1 _ (HT.out.below hT0 H)).mono ?_; rintro e w' ⟨rfl, rfl⟩
    go_wp2_with fail
    refine (a5 _ (HT.out.below hT0 H)).mono ?_; rintro e w' ⟨rfl, rfl⟩
    go_wp2_with fail
    refine (WK.out _ (HT.out.below hT0 H)).mono ?_; rintro e w3 ⟨rfl, hb⟩
    replace H := H.trans (hb.mono H.size)
    clear hb
    go_wp2
    go_ret
    exact ⟨rfl, H⟩
end Go.Proofs.YtjkhancjfaegiaaDoor
