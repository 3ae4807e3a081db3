/- 'WaitTries': nothing is due behind the third try, nor over ahead of it; nothing at all of none: for any numbers, the table of waits laid. -/
import Derived.Test.YtjkhancjfaegiaaDoorTWakes
set_option linter.unusedVariables false
set_option maxRecDepth 100000
set_option linter.unusedSimpArgs false
namespace Go.Proofs.YtjkhancjfaegiaaDoor
open Go.RowKit Go.Shelf Ms

theorem dueB_tries {s t n : Int} (h : dueB s t n = true) : t = 1 ∨ t = 2 := by
  unfold dueB at h
  simp only [Bool.and_eq_true, decide_eq_true_eq] at h
  omega
theorem overB_tries {s t n : Int} (h : overB s t n = true) : 3 ≤ t := by
  unfold overB at h
  simp only [Bool.and_eq_true, decide_eq_true_eq] at h
  exact h.1
set_option maxHeartbeats 4000000 in
theorem tries_walk (W : World) (hT : TabW W) (s : Int) (w0 : (Lit.int .i64 s).wf = true) (t : Int) (w1 : (Lit.int .i64 t).wf = true) (n : Int) (w2 : (Lit.int .i64 n).wf = true) :
    Calls Tryd.prog 7 #[.int .i64 s, .int .i64 t, .int .i64 n] W fun e w' => e = .returned (.bool true) ∧ Below W.heap.size W w' := by
  have hT0 := hT.size
  have HT := Lib.hid hT
  have a1 := fun w h => Wait_any t w h
  have a2 := fun w h => Due_any s t n w h
  have a3 := fun w h => Over_any s t n w h
  have WK := Lib.hid wakes_any
  have h2 := @dueB_tries s t n
  have h3 := @overB_tries s t n
  have hv : t < 1 → wN t = 0 := fun h => if_pos h
  clear hT w0 w1 w2
  generalize wN t = v at *
  generalize dueB s t n = d at *
  generalize overB s t n = o at *
  have H := Below.refl W.heap.size W
  cases d
  · cases o
    · by_cases ht : 1 ≤ t
      · clear hv h2 h3
        go_enter Tryd.func7, Tryd.ntmps7
        go_wp2_with fail
        refine (a2 _ (HT.out.below hT0 H)).mono ?_; rintro e w1 ⟨rfl, hb⟩
        replace H := H.trans (hb.mono H.size)
        clear hb
        go_wp2_with fail
        refine (a3 _ (HT.out.below hT0 H)).mono ?_; rintro e w1 ⟨rfl, hb⟩
        replace H := H.trans (hb.mono H.size)
        clear hb
        go_wp2_with fail
        refine (WK.out _ (HT.out.below hT0 H)).mono ?_; rintro e w1 ⟨rfl, hb⟩
        replace H := H.trans (hb.mono H.size)
        clear hb
        go_wp2
        go_ret
        exact ⟨rfl, H⟩
      · obtain rfl := hv (by omega)
        clear hv h2 h3
        go_enter Tryd.func7, Tryd.ntmps7
        go_wp2_with fail
        refine (a2 _ (HT.out.below hT0 H)).mono ?_; rintro e w1 ⟨rfl, hb⟩
        replace H := H.trans (hb.mono H.size)
        clear hb
        go_wp2_with fail
        refine (a3 _ (HT.out.below hT0 H)).mono ?_; rintro e w1 ⟨rfl, hb⟩
        replace H := H.trans (hb.mono H.size)
        clear hb
        go_wp2_with fail
        refine (a1 _ (HT.out.below hT0 H)).mono ?_; rintro e w1 ⟨rfl, rfl⟩
        go_wp2_with fail
        refine (WK.out _ (HT.out.below hT0 H)).mono ?_; rintro e w1 ⟨rfl, hb⟩
        replace H := H.trans (hb.mono H.size)
        clear hb
        go_wp2
        go_ret
        exact ⟨rfl, H⟩
    · have ht := h3 rfl
      clear hv h2 h3
      go_enter Tryd.func7, Tryd.ntmps7
      go_wp2_with fail
      refine (a2 _ (HT.out.below hT0 H)).mono ?_; rintro e w1 ⟨rfl, hb⟩
      replace H := H.trans (hb.mono H.size)
      clear hb
      go_wp2_with fail
      refine (a3 _ (HT.out.below hT0 H)).mono ?_; rintro e w1 ⟨rfl, hb⟩
      replace H := H.trans (hb.mono H.size)
      clear hb
      go_wp2_with fail
      refine (WK.out _ (HT.out.below hT0 H)).mono ?_; rintro e w1 ⟨rfl, hb⟩
      replace H := H.trans (hb.mono H.size)
      clear hb
      go_wp2
      go_ret
      exact ⟨rfl, H⟩
  · have ht := h2 rfl
    cases o
    · clear hv h2 h3
      rcases ht with rfl | rfl
      all_goals
        go_enter Tryd.func7, Tryd.ntmps7
        go_wp2_with fail
        refine (a2 _ (HT.out.below hT0 H)).mono ?_; rintro e w1 ⟨rfl, hb⟩
        replace H := H.trans (hb.mono H.size)
        clear hb
        go_wp2_with fail
        refine (a3 _ (HT.out.below hT0 H)).mono ?_; rintro e w1 ⟨rfl, hb⟩
        replace H := H.trans (hb.mono H.size)
        clear hb
        go_wp2_with fail
        refine (WK.out _ (HT.out.below hT0 H)).mono ?_; rintro e w1 ⟨rfl, hb⟩
        replace H := H.trans (hb.mono H.size)
        clear hb
        go_wp2
        go_ret
        exact ⟨rfl, H⟩
    · have := h3 rfl
      omega
end Go.Proofs.YtjkhancjfaegiaaDoor
