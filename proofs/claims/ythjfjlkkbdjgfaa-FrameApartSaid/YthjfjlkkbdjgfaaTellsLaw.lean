/- 'FrameTells': the walk of the law: states, sums, frames, payloads, sizes are as the document's. -/
import Derived.Test.YthjfjlkkbdjgfaaSteps
set_option linter.unusedVariables false
set_option linter.unusedSimpArgs false
namespace Go.Proofs.Ythjfjlkkbdjgfaa
open Go.RowKit Go.Shelf

theorem same_eq (va vb : Value) (l : List UInt8) (w : World) (h1 : Sl w va (bv l)) (h2 : Sl w vb (bv l)) : Calls Try.prog 18 #[va, vb] w fun e w' => e = .returned (.bool true) ∧ w = w' := by
  refine (same_any va vb l l w h1 h2).mono ?_
  rintro e w' ⟨rfl, rfl⟩
  exact ⟨by simp, rfl⟩

set_option maxRecDepth 100000 in
set_option maxHeartbeats 4000000 in
theorem tells_walk (W : World) (a : Int) (w1 : (Lit.int .u32 a).wf = true) (b : Bool) (v : Value) (l : List UInt8) (hs : Sl W v (bv l)) (n : Int) (w3 : (Lit.int .i64 n).wf = true) :
    Calls Try.prog 3 #[.int .u32 a, .bool b, v, .int .i64 n] W fun e w' => e = .returned (.bool true) ∧ Below W.heap.size W w' := by
  obtain ⟨s, rfl⟩ := word_wf w1
  have HS := Lib.hid hs
  obtain ⟨A, c, rfl⟩ := hs.form
  rw [bv_length] at *
  by_cases hl : 300 < l.length
  · go_enter Try.func3, Try.ntmps3
    go_wp2_with fail
    refine (wakes_any _).mono ?_; rintro e w1 ⟨rfl, hb⟩
    go_wp2
    go_ret
    exact ⟨rfl, hb⟩
  · have hl2 : l.length ≤ 300 := by omega
    have a1 := fun w => Step_any s b w
    have a2 := fun w => Step_ref s b w
    have a3 := fun v w h => Sum_any v l w h
    have a4 := fun v w h => Sum_ref v l w h
    have a5 := fun v w h => Close_any v l w h
    have a6 := fun v w h => Close_ref v l w h
    have a7 := fun v w h => Open_any v l w h
    have a8 := fun v w h => Open_ref v l w h (by omega)
    have a9 := fun w => Size_any n w
    have a10 := fun w => Size_ref n w
    generalize (stp s b).toNat = x1 at *
    generalize (sumB l).toNat = x2 at *
    generalize closeE l = x3 at *
    generalize closeB l = x4 at *
    generalize openE l = x5 at *
    generalize openP l = x6 at *
    generalize siz n = x7 at *
    generalize s.toNat = sn at *
    clear w1 w3 hl hs
    have H := Below.refl W.heap.size W
    go_enter Try.func3, Try.ntmps3
    go_wp2_with fail
    refine (a5 _ _ HS.out).mono ?_; rintro e u1 ⟨v1, rfl, s1, hb⟩
    replace H := H.trans (hb.mono H.size)
    clear hb
    go_wp2_with fail
    refine (a6 _ _ (HS.out.below H)).mono ?_; rintro e u2 ⟨v2, rfl, s2, hb⟩
    replace H := H.trans (hb.mono H.size)
    replace s1 := s1.below hb
    clear hb
    go_wp2_with fail
    refine (a7 _ _ (HS.out.below H)).mono ?_; rintro e u3 ⟨v3, rfl, s3, hb⟩
    replace H := H.trans (hb.mono H.size)
    replace s1 := s1.below hb
    replace s2 := s2.below hb
    clear hb
    go_wp2_with fail
    refine (a8 _ _ (HS.out.below H)).mono ?_; rintro e u4 ⟨v4, rfl, s4, hb⟩
    replace H := H.trans (hb.mono H.size)
    replace s1 := s1.below hb
    replace s2 := s2.below hb
    replace s3 := s3.below hb
    clear hb
    go_wp2_with fail
    refine (a1 _).mono ?_; rintro e w' ⟨rfl, rfl⟩
    go_wp2_with fail
    refine (a2 _).mono ?_; rintro e w' ⟨rfl, rfl⟩
    go_wp2_with fail
    refine (a3 _ _ (HS.out.below H)).mono ?_; rintro e u5 ⟨rfl, hb⟩
    replace H := H.trans (hb.mono H.size)
    replace s1 := s1.below hb
    replace s2 := s2.below hb
    replace s3 := s3.below hb
    replace s4 := s4.below hb
    clear hb
    go_wp2_with fail
    refine (a4 _ _ (HS.out.below H)).mono ?_; rintro e w' ⟨rfl, rfl⟩
    go_wp2_with fail
    refine (same_eq _ _ _ _ s1 s2).mono ?_; rintro e w' ⟨rfl, rfl⟩
    go_wp2_with fail
    refine (same_eq _ _ _ _ s3 s4).mono ?_; rintro e w' ⟨rfl, rfl⟩
    go_wp2_with fail
    refine (a9 _).mono ?_; rintro e w' ⟨rfl, rfl⟩
    go_wp2_with fail
    refine (a10 _).mono ?_; rintro e w' ⟨rfl, rfl⟩
    go_wp2_with fail
    refine (wakes_any _).mono ?_; rintro e u6 ⟨rfl, hb⟩
    replace H := H.trans (hb.mono H.size)
    go_wp2
    go_ret
    exact ⟨rfl, H⟩
end Go.Proofs.Ythjfjlkkbdjgfaa
