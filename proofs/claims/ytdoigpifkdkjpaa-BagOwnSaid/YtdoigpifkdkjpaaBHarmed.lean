/- 'harmed': whether the datagram of that number is harmed in the second row and isn't in the first. -/
import Derived.Test.YtdoigpifkdkjpaaBRef
import Derived.Test.YtdoigpifkdkjpaaBSame
set_option linter.unusedVariables false
set_option maxRecDepth 100000
set_option linter.unusedSimpArgs false
namespace Go.Proofs.Ytdoigpifkdkjpaa
open Go.RowKit Go.Shelf Ms

set_option maxHeartbeats 4000000 in
theorem harmed_any (va vb : Value) (la lb : List Gr) (k : Nat) (w : World) (ha : SwG w va la) (hb : SwG w vb lb) (hl : la.length = lb.length) (hk : k < la.length) :
    Calls Try.prog 26 #[va, vb, .int .i64 (k : Int)] w fun e w' => e = .returned (.bool (!(la.getD k noG).harm && (lb.getD k noG).harm)) ∧ Below w.heap.size w w' := by
  obtain ⟨A, c, rfl⟩ := ha.form
  obtain ⟨B, d, rfl⟩ := hb.form
  have hk2 : k < lb.length := by omega
  rw [show la.getD k noG = la[k] by simp [hk], show lb.getD k noG = lb[k] by simp [hk2]]
  obtain ⟨b1, o1, rfl, hb1, x1, ⟨u1, y1, s1⟩, z1⟩ := ha.at_ k hk
  obtain ⟨b2, o2, rfl, hb2, x2, ⟨u2, y2, s2⟩, z2⟩ := hb.at_ k hk2
  have hn := ha.len
  generalize la[k] = ga at *
  generalize lb[k] = gb at *
  have e4 : (lb.length : Int) = (la.length : Int) := by omega
  generalize hLB : lb.length = q at *
  obtain rfl : la.length = q := by omega
  have c1 := fun y : Wd w => (y.below.cell (p := ⟨b1, o1 + k * 3 + 2, none⟩) hb1).trans z1
  have c2 := fun y : Wd w => (y.below.cell (p := ⟨b2, o2 + k * 3 + 2, none⟩) hb2).trans z2
  have LG1 := Lib.hid (fun y : Wd w => run_loadG (P := Try.prog) aggG ((y.below.cell (p := ⟨b1, _, none⟩) hb1).trans x1) ((y.below.cell (p := ⟨b1, _, none⟩) hb1).trans y1) ((y.below.cell (p := ⟨b1, _, none⟩) hb1).trans z1))
  have LG2 := Lib.hid (fun y : Wd w => run_loadG (P := Try.prog) aggG ((y.below.cell (p := ⟨b2, _, none⟩) hb2).trans x2) ((y.below.cell (p := ⟨b2, _, none⟩) hb2).trans y2) ((y.below.cell (p := ⟨b2, _, none⟩) hb2).trans z2))
  have K1 := fun y : Wd w => y.call (rgram_any ga gb _ _ y.w (s1.below y.below) (s2.below y.below))
  have e1 : decide ((k : Int) < 0) = false := decide_eq_false (by omega)
  have e2 : decide ((k : Int) ≥ (la.length : Int)) = false := decide_eq_false (by omega)
  have e3 : ¬ la.length ≤ k := by omega
  have i0 : (0 : Int) ≤ (k : Int) := by omega
  have i1 : (k : Int) < (la.length : Int) := by omega
  clear ha hb x1 y1 z1 s1 x2 y2 z2 s2 hb1 hb2 hl hk2
  cases h1 : ga.harm
  · cases h2 : gb.harm
    · simp only [h1, h2] at c1 c2
      have HK := Lib.hid K1
      clear K1
      go_enter Try.func26, Try.ntmps26
      go_wp2_with fail
      refine wpRegion_behind ⟨w, Below.refl _ _⟩ (by kernel_rfl) (by kernel_rfl) ?_
      repeat (first
        | go_big_quiet_skip
        | (go_big_quiet_want; go_big_quiet_op; first | go_big_quiet_on | (apply Exists.intro; refine ⟨fun _ => rfl, ?_⟩; go_big_quiet_on)))
      refine wpQuiet_nil ?_
      intro y
      go_wp2
      go_ret
      exact ⟨rfl, y.below⟩
    · have hd : decide (ga = gb) = false := decide_eq_false (fun h => by rw [h, h2] at h1; cases h1)
      rw [hd] at K1
      simp only [h1, h2] at c1 c2
      have HK := Lib.hid K1
      clear K1
      go_enter Try.func26, Try.ntmps26
      go_wp2_with fail
      refine wpRegion_behind ⟨w, Below.refl _ _⟩ (by kernel_rfl) (by kernel_rfl) ?_
      repeat (first
        | go_big_quiet_skip
        | (go_big_quiet_want
           first
           | (refine quietLoad _ rfl rfl LG1.out ?_
              simp only [Act.put, List.setIfInBounds_toArray, List.set_cons_zero, List.set_cons_succ]
              go_big_quiet_on)
           | (refine quietLoad _ rfl rfl LG2.out ?_
              simp only [Act.put, List.setIfInBounds_toArray, List.set_cons_zero, List.set_cons_succ]
              go_big_quiet_on)
           | (go_big_quiet_op; first | go_big_quiet_on | (apply Exists.intro; refine ⟨fun _ => rfl, ?_⟩; go_big_quiet_on) | go_big_quiet_call ((go_at_call 15; exact HK.out _)))))
      refine wpQuiet_nil ?_
      intro y
      go_wp2
      go_ret
      exact ⟨rfl, y.below⟩
  · simp only [h1] at c1
    have HK := Lib.hid K1
    clear K1
    go_enter Try.func26, Try.ntmps26
    go_wp2_with fail
    refine wpRegion_behind ⟨w, Below.refl _ _⟩ (by kernel_rfl) (by kernel_rfl) ?_
    repeat (first
      | go_big_quiet_skip
      | (go_big_quiet_want; go_big_quiet_op; first | go_big_quiet_on | (apply Exists.intro; refine ⟨fun _ => rfl, ?_⟩; go_big_quiet_on)))
    refine wpQuiet_nil ?_
    intro y
    go_wp2
    go_ret
    exact ⟨rfl, y.below⟩
end Go.Proofs.Ytdoigpifkdkjpaa
