/- 'BagFor': the walk of the law where something is taken and the copy is lost. -/
import Derived.Test.YtdoigpifkdkjpaaBForLaw2
set_option linter.unusedVariables false
set_option maxRecDepth 100000
set_option linter.unusedSimpArgs false
namespace Go.Proofs.Ytdoigpifkdkjpaa
open Go.RowKit Go.Shelf Ms

set_option maxHeartbeats 8000000 in
theorem for_lost (s : Value) (n : Int) (gs : List Gr) (i to : Int) (w : World) (hs : SwG w s gs) (hg : greatG gs = false) (hl4 : gs.length ≤ 400) (n2 : Int) (gP : List Gr) (p : Gr) (hTW : twiceS gs n i = (gs, n2, 0)) (hTK : takeS gs i = (gP, p, true)) (hlP : gP.length ≤ 1000) (hO : n2 = IntKind.i64.wrap (n + 1)) (hP : gP.length + 1 = gs.length) (hi0 : 0 ≤ i) (hi1 : i < gs.length) :
    Calls Try.prog 7 #[.agg (bagC s n), .int .i64 i, .int .i64 to] w fun e w' => e = .returned (.bool true) ∧ Below w.heap.size w w' := by
  obtain ⟨A0, c0, rfl⟩ := hs.form
  have r1 := Rw.new w (bagC (.slice A0 gs.length c0) n) 24
  have B0 := box_below w (.cells (bagC (.slice A0 gs.length c0) n) 24)
  have H0 := Lib.hid (And.intro r1 (And.intro B0 (hs.below B0)))
  have c1 := r1.cell
  clear r1 B0 hs
  obtain ⟨hn420, hl300⟩ := great_no hg
  have hl : ∀ g ∈ gs, g.bytes.length ≤ 1000 := fun g h => by have := hl300 g h; omega
  have HL := Lib.hid hl
  have e4 : decide ((gs.length : Int) > 400) = false := decide_eq_false (by omega)
  have e5 : decide (400 < (gs.length : Int)) = false := decide_eq_false (by omega)
  have hn1 : gs.length ≤ 1000 := by omega
  have hlO : gs.length ≤ 1000 := hn1
  have HOO := Lib.hid hO
  have HPP := Lib.hid hP
  have d1 : decide (i ≥ 0) = true := decide_eq_true (by omega)
  have d2 : decide (0 ≤ i) = true := decide_eq_true (by omega)
  have d3 : decide (i < (gs.length : Int)) = true := decide_eq_true (by omega)
  clear hO hP
  clear hl hl300 hn420
  go_enter Try.func7, Try.ntmps7
  go_wp2_with (first
    | (with_reducible show wpList _ _ _ (Oper.mk _ (Op.load 24 (.tmp 3)) _ _ _ _ :: _) _ _
       refine wpList_loadW H0.out.1 aggB rfl _ rfl rfl ?_))
  refine (rGreat_any _ n gs _ H0.out.2.2).mono ?_; rintro e w1 ⟨rfl, hb1⟩
  rw [hg]
  have H1 := Lib.hid (And.intro (H0.out.1.below hb1) (And.intro (H0.out.2.1.trans (hb1.mono H0.out.2.1.size)) (H0.out.2.2.below hb1)))
  have c1 := H1.out.1.cell
  clear H0 hb1 hg
  go_wp2_with (first
    | (with_reducible show wpList _ _ _ (Oper.mk _ (Op.load 24 (.tmp 3)) _ _ _ _ :: _) _ _
       refine wpList_loadW H1.out.1 aggB rfl _ rfl rfl ?_))
  refine (Twice_any _ n gs i _ H1.out.2.2 HL.out hn1).mono ?_; rintro e w2 ⟨A8, q8, d8, rfl, hm⟩
  rw [hTW] at hm ⊢
  dsimp only at hm
  have hb := hm.below
  have H2 := Lib.hid (And.intro (H1.out.1.below hb) (And.intro (H1.out.2.1.trans (hb.mono H1.out.2.1.size)) (And.intro (H1.out.2.2.below hb) hm.swG)))
  clear H1 c1 hm hb
  have bX : Below w2.heap.size w2 ((w2.alloc (.cells (bagC nilB 0) 24)).setRow w2.heap.size (bagC (.slice A8 q8 d8) (n2))) := below_setRow (box_below w2 _) (Nat.le_refl _) _
  go_wp2_with (first
    | (with_reducible show wpList _ _ _ (Oper.mk _ (Op.store 24 (.tmp 8) _) _ _ _ _ :: _) _ _
       refine wpList_storeR (c := bagC (.slice A8 q8 d8) (n2)) rfl _ _ rfl rfl rfl aggB.hi (Rw.new w2 (bagC nilB 0) 24) rfl (bag_one _ _ _ _) ?_
       refine gen_w (fun Z => Rw Z w.heap.size 24 (bagC (.slice A0 gs.length c0) n) ∧ Rw Z w2.heap.size 24 (bagC (.slice A8 q8 d8) (n2)) ∧ Below w.heap.size w Z ∧ SwG Z (.slice A0 gs.length c0) gs ∧ SwG Z (.slice A8 q8 d8) (gs))
         ⟨H2.out.1.below bX, (Rw.new w2 (bagC nilB 0) 24).setRow, H2.out.2.1.trans (bX.mono H2.out.2.1.size), H2.out.2.2.1.below bX, H2.out.2.2.2.below bX⟩ ?_
       rintro X3 hF
       clear H2 bX
       have H3 := Lib.hid hF
       clear hF
       generalize w2.heap.size = b8 at *)
    | (with_reducible show wpList _ _ _ (Oper.mk _ (Op.load 24 (.tmp 3)) _ _ _ _ :: _) _ _
       refine wpList_loadW H3.out.1 aggB rfl _ rfl rfl ?_))
  refine (Take_any _ n gs i _ H3.out.2.2.2.1 HL.out hn1).mono ?_; rintro e w4 ⟨A10, q10, d10, u, rfl, hm, hu⟩
  rw [hTK] at hm hu ⊢
  dsimp only at hm hu
  obtain ⟨Au, cu, rfl⟩ := (Sl.of_own hu).form
  rw [bv_length] at hu ⊢
  have hb := hm.below
  have H4 := Lib.hid (And.intro (H3.out.1.below hb) (And.intro (H3.out.2.1.below hb) (And.intro (H3.out.2.2.1.trans (hb.mono H3.out.2.2.1.size)) (And.intro (H3.out.2.2.2.1.below hb) (And.intro (H3.out.2.2.2.2.below hb) (And.intro hm.swG (Sl.of_own hu)))))))
  obtain ⟨z1, z2, B1⟩ := two_boxes w4 (bagC nilB 0) (noG.c nilB) 24 29
  have bY : Below w4.heap.size w4 ((((w4.alloc (.cells (bagC nilB 0) 24)).alloc (.cells (noG.c nilB) 29)).setRow w4.heap.size (bagC (.slice A10 q10 d10) n)).setRow (w4.heap.size + 1) ((p).c (.slice Au (p).bytes.length cu))) := below_setRow (below_setRow B1 (Nat.le_refl _) _) (by omega) _
  have HZ := Lib.hid (And.intro z1 z2)
  clear H3 hm hu hb z1 z2 B1
  go_wp2_with (first
    | (with_reducible show wpList _ _ _ (Oper.mk _ (Op.store 24 (.tmp 10) _) _ _ _ _ :: _) _ _
       refine wpList_storeR (c := bagC (.slice A10 q10 d10) n) rfl _ _ rfl rfl rfl aggB.hi HZ.out.1 rfl (bag_one _ _ _ _) ?_)
    | (with_reducible show wpList _ _ _ (Oper.mk _ (Op.store 29 (.tmp 11) _) _ _ _ _ :: _) _ _
       refine wpList_storeR (c := (p).c (.slice Au (p).bytes.length cu)) rfl _ _ rfl rfl rfl aggG.hi (HZ.out.2.setRow_other (by omega)) rfl (Gr.one _ _ _ _) ?_
       refine gen_w (fun Z => Rw Z w.heap.size 24 (bagC (.slice A0 gs.length c0) n) ∧ Rw Z b8 24 (bagC (.slice A8 q8 d8) (n2)) ∧ Rw Z w4.heap.size 24 (bagC (.slice A10 q10 d10) n) ∧ Rw Z (w4.heap.size + 1) 29 ((p).c (.slice Au (p).bytes.length cu)) ∧ Below w.heap.size w Z ∧ SwG Z (.slice A0 gs.length c0) gs ∧ SwG Z (.slice A8 q8 d8) (gs) ∧ SwG Z (.slice A10 q10 d10) (gP) ∧ Sl Z (.slice Au (p).bytes.length cu) (bv (p).bytes))
         ⟨H4.out.1.below bY, H4.out.2.1.below bY, HZ.out.1.setRow.setRow_other (by omega), (HZ.out.2.setRow_other (by omega)).setRow, H4.out.2.2.1.trans (bY.mono H4.out.2.2.1.size), H4.out.2.2.2.1.below bY, H4.out.2.2.2.2.1.below bY, H4.out.2.2.2.2.2.1.below bY, H4.out.2.2.2.2.2.2.below bY⟩ ?_
       rintro X5 hF
       clear H4 bY HZ
       have H5 := Lib.hid hF
       clear hF
       generalize w4.heap.size = b10 at *))
  have HS := Lib.hid (show ∀ X, Below X5.heap.size X5 X → Below X5.heap.size X5 X ∧ X.cell? ⟨w.heap.size, 0, none⟩ = some (.slice A0 gs.length c0) ∧ X.cell? ⟨w.heap.size, 1, none⟩ = some (.int .i64 n) ∧ X.cell? ⟨b8, 0, none⟩ = some (.slice A8 q8 d8) ∧ X.cell? ⟨b8, 1, none⟩ = some (.int .i64 (n2)) ∧ X.cell? ⟨b10, 0, none⟩ = some (.slice A10 q10 d10) ∧ X.cell? ⟨b10, 1, none⟩ = some (.int .i64 n) from fun X h =>
    ⟨h, (H5.out.1.below h).cell 0, (H5.out.1.below h).cell 1, (H5.out.2.1.below h).cell 0, (H5.out.2.1.below h).cell 1, (H5.out.2.2.1.below h).cell 0, (H5.out.2.2.1.below h).cell 1⟩)
  have K1 := Lib.hid (fun X (h : Below X5.heap.size X5 X) => For_any (.slice A0 gs.length c0) n gs to X (H5.out.2.2.2.2.2.1.below h) hn1)
  have K2 := Lib.hid (fun X (h : Below X5.heap.size X5 X) => For_any (.slice A8 q8 d8) (n2) (gs) to X (H5.out.2.2.2.2.2.2.1.below h) hlO)
  have K3 := Lib.hid (fun X (h : Below X5.heap.size X5 X) => For_any (.slice A10 q10 d10) n (gP) to X (H5.out.2.2.2.2.2.2.2.1.below h) hlP)
  have R1 := Lib.hid (fun X (h : Below X5.heap.size X5 X) v (hv : Sl X v (iv (forK gs to gs.length))) => rising_any (.slice A0 gs.length c0) n gs to v X (H5.out.2.2.2.2.2.1.below h) hn1 hv)
  have R2 := Lib.hid (fun X (h : Below X5.heap.size X5 X) v (hv : Sl X v (iv (forK (gs) to (gs).length))) => rising_any (.slice A8 q8 d8) (n2) (gs) to v X (H5.out.2.2.2.2.2.2.1.below h) hlO hv)
  have R3 := Lib.hid (fun X (h : Below X5.heap.size X5 X) v (hv : Sl X v (iv (forK (gP) to (gP).length))) => rising_any (.slice A10 q10 d10) n (gP) to v X (H5.out.2.2.2.2.2.2.2.1.below h) hlP hv)
  have hlOi := hlO
  first | (go_region_held3 (fun X => Below X5.heap.size X5 X ∧ X.cell? ⟨w.heap.size, 0, none⟩ = some (.slice A0 gs.length c0) ∧ X.cell? ⟨w.heap.size, 1, none⟩ = some (.int .i64 n) ∧ X.cell? ⟨b8, 0, none⟩ = some (.slice A8 q8 d8) ∧ X.cell? ⟨b8, 1, none⟩ = some (.int .i64 (n2)) ∧ X.cell? ⟨b10, 0, none⟩ = some (.slice A10 q10 d10) ∧ X.cell? ⟨b10, 1, none⟩ = some (.int .i64 n))
    (first
      | exact HS.out _ (Below.refl _ _).drew
      | assumption
      | exact HS.out _ (by assumption))
    (first
      | (go_at_call_of 22 (Value.slice A0 gs.length c0); refine (K1.out _ (by first | exact (Below.refl _ _).drew | assumption)).mono ?_; rintro e y1 ⟨v1, rfl, hv1⟩; have hy1 : Below X5.heap.size X5 y1 := (Below.refl X5.heap.size X5).drew.trans hv1.below; obtain ⟨V1, k1, rfl⟩ := hv1.sl.form; have sv1 := hv1.sl; clear hv1)
      | (go_at_call_of 29 (Value.slice A0 gs.length c0); refine (R1.out _ hy1 _ sv1).mono ?_; rintro e y2 ⟨rfl, hz2⟩; have hy2 : Below X5.heap.size X5 y2 := hy1.trans (hz2.mono hy1.size); clear hz2)
      | (go_at_call_of 22 (Value.slice A8 q8 d8); refine (K2.out _ hy2).mono ?_; rintro e y3 ⟨v3, rfl, hv3⟩; have hy3 : Below X5.heap.size X5 y3 := hy2.trans (hv3.below.mono hy2.size); obtain ⟨V3, k3, rfl⟩ := hv3.sl.form; have sv3 := hv3.sl; clear hv3)
      | (go_at_call_of 29 (Value.slice A8 q8 d8); refine (R2.out _ hy3 _ sv3).mono ?_; rintro e y4 ⟨rfl, hz4⟩; have hy4 : Below X5.heap.size X5 y4 := hy3.trans (hz4.mono hy3.size); clear hz4)
      | (go_at_call_of 22 (Value.slice A10 q10 d10); refine (K3.out _ hy4).mono ?_; rintro e y5 ⟨v5, rfl, hv5⟩; have hy5 : Below X5.heap.size X5 y5 := hy4.trans (hv5.below.mono hy4.size); obtain ⟨V5, k5, rfl⟩ := hv5.sl.form; have sv5 := hv5.sl; clear hv5)
      | (go_at_call_of 29 (Value.slice A10 q10 d10); refine (R3.out _ hy5 _ sv5).mono ?_; rintro e y6 ⟨rfl, hz6⟩; have hy6 : Below X5.heap.size X5 y6 := hy5.trans (hz6.mono hy5.size); clear hz6))) | fail
  have HY := Lib.hid hy6
  clear hy1 hy2 hy3 hy4 hy5 hy6 HS K1 K2 K3 R1 R2 R3
  have v0 : y6.cell? ⟨b10, 0, none⟩ = some (.slice A10 q10 d10) := (H5.out.2.2.1.below HY.out).cell 0
  have v1 : y6.cell? ⟨b10, 1, none⟩ = some (.int .i64 n) := (H5.out.2.2.1.below HY.out).cell 1
  have v2 : y6.cell? ⟨b8, 0, none⟩ = some (.slice A8 q8 d8) := (H5.out.2.1.below HY.out).cell 0
  have v3 : y6.cell? ⟨b8, 1, none⟩ = some (.int .i64 n2) := (H5.out.2.1.below HY.out).cell 1
  have v4 : y6.cell? ⟨w.heap.size, 1, none⟩ = some (.int .i64 n) := (H5.out.1.below HY.out).cell 1
  have e7 : IntKind.i64.wrap ((gs.length : Int) - 1) = (q10 : Int) := by
    have := H5.out.2.2.2.2.2.2.2.1.qlen; have := HPP.out
    rw [IntKind.wrap_i64]; omega
  clear hi0 hi1
  obtain rfl : q8 = gs.length := H5.out.2.2.2.2.2.2.1.qlen
  have e9 : IntKind.i64.wrap (n + 1) = n2 := HOO.out.symm
  obtain ⟨m, hm⟩ : ∃ m, m = gs.length + 1 := ⟨_, rfl⟩
  have e8 : IntKind.i64.wrap ((gs.length : Int) + 1) = (m : Int) := by
    rw [IntKind.wrap_i64]; omega
  have f3 : ¬ m < gs.length := by omega
  have f4 : decide ((m : Int) < (gs.length : Int)) = false := decide_eq_false (by omega)
  have f5 : decide ((gs.length : Int) > (m : Int)) = false := decide_eq_false (by omega)
  have HM := Lib.hid hm
  have d5 := fun (y : Wd y6) (j : Nat) => ((H5.out.2.1.below HY.out).below y.below).cell j
  have HK := Lib.hid (fun y : Wd y6 => y.call (wakes_any y.w))
  have HW := Lib.hid (H5.out.2.2.2.2.1.trans (HY.out.mono H5.out.2.2.2.2.1.size))
  clear hm
  go_wp2_with fail
  refine wpRegion_behind ⟨y6, Below.refl _ _⟩ (by kernel_rfl) (by kernel_rfl) ?_
  repeat (first
    | go_big_quiet_skip
    | (go_big_quiet_want; go_big_quiet_op; first | go_big_quiet_on | (apply Exists.intro; refine ⟨fun _ => rfl, ?_⟩; go_big_quiet_on) | go_big_quiet_call ((go_at_call 9; exact HK.out _))))
  refine wpQuiet_nil ?_
  intro y
  go_wp2
  go_ret
  exact ⟨rfl, HW.out.trans (y.below.mono HW.out.size)⟩
end Go.Proofs.Ytdoigpifkdkjpaa
