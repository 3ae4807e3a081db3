/- 'BagFor': the walk of the law. -/
import Derived.Test.YtdoigpifkdkjpaaBRising
import Derived.Test.YtdoigpifkdkjpaaBRef2
import Derived.Deep.RegionHeld3
set_option linter.unusedVariables false
set_option maxRecDepth 100000
set_option linter.unusedSimpArgs false
namespace Go.Proofs.Ytdoigpifkdkjpaa
open Go.RowKit Go.Shelf Ms

theorem great_no {gs : List Gr} (h : greatG gs = false) : gs.length ≤ 420 ∧ ∀ g ∈ gs, g.bytes.length ≤ 300 := by
  unfold greatG at h
  rw [Bool.or_eq_false_iff] at h
  have h2 := of_decide_eq_false h.2
  refine ⟨by omega, fun g hg => ?_⟩
  rw [List.take_of_length_le (by omega)] at h
  have h3 := (List.any_eq_false.1 h.1) g hg
  simpa using h3
theorem same_yes (n : Int) (gs : List Gr) : decide (n = n ∧ gs = gs) = true := decide_eq_true ⟨rfl, rfl⟩
theorem forK_len' (gs : List Gr) (to : Int) : (iv (forK gs to gs.length)).length ≤ gs.length := by
  rw [iv_length]
  exact forK_len ..
set_option maxHeartbeats 8000000 in
theorem for_low (s : Value) (n : Int) (gs : List Gr) (i to : Int) (w : World) (hs : SwG w s gs) (hg : greatG gs = false) (hl4 : gs.length ≤ 400) (hp : pick gs i = none) (hi : i < 0) :
    Calls Try.prog 7 #[.agg (bagC s n), .int .i64 i, .int .i64 to] w fun e w' => e = .returned (.bool true) ∧ Below w.heap.size w w' := by
  obtain ⟨A0, c0, rfl⟩ := hs.form
  have r1 := Rw.new w (bagC (.slice A0 gs.length c0) n) 24
  have B0 := box_below w (.cells (bagC (.slice A0 gs.length c0) n) 24)
  have H0 := Lib.hid (And.intro r1 (And.intro B0 (hs.below B0)))
  have c1 := r1.cell
  clear r1 B0 hs
  obtain ⟨hn420, hl300⟩ := great_no hg
  have hl : ∀ g ∈ gs, g.bytes.length ≤ 1000 := fun g h => by have := hl300 g h; omega
  have HL := Lib.hid hl
  have e4 : decide ((gs.length : Int) > 400) = false := decide_eq_false (by omega)
  have e5 : decide (400 < (gs.length : Int)) = false := decide_eq_false (by omega)
  have hn1 : gs.length ≤ 1000 := by omega
  have hTW : twiceS gs n i = (gs, n, 2) := by unfold twiceS; rw [hp]
  have hTK : takeS gs i = (gs, noG, false) := by unfold takeS; rw [hp]
  have hlO : gs.length ≤ 1000 := hn1
  have hlP : gs.length ≤ 1000 := hn1
  have hpn := pick_none hp
  have d1 : decide (i ≥ 0) = false := decide_eq_false (by omega)
  have d2 : decide (0 ≤ i) = false := decide_eq_false (by omega)
  clear hp hpn
  clear hl hl300 hn420
  go_enter Try.func7, Try.ntmps7
  go_wp2_with (first
    | (with_reducible show wpList _ _ _ (Oper.mk _ (Op.load 24 (.tmp 3)) _ _ _ _ :: _) _ _
       refine wpList_loadW H0.out.1 aggB rfl _ rfl rfl ?_))
  refine (rGreat_any _ n gs _ H0.out.2.2).mono ?_; rintro e w1 ⟨rfl, hb1⟩
  rw [hg]
  have H1 := Lib.hid (And.intro (H0.out.1.below hb1) (And.intro (H0.out.2.1.trans (hb1.mono H0.out.2.1.size)) (H0.out.2.2.below hb1)))
  have c1 := H1.out.1.cell
  clear H0 hb1 hg
  go_wp2_with (first
    | (with_reducible show wpList _ _ _ (Oper.mk _ (Op.load 24 (.tmp 3)) _ _ _ _ :: _) _ _
       refine wpList_loadW H1.out.1 aggB rfl _ rfl rfl ?_))
  refine (Twice_any _ n gs i _ H1.out.2.2 HL.out hn1).mono ?_; rintro e w2 ⟨A8, q8, d8, rfl, hm⟩
  rw [hTW] at hm ⊢
  dsimp only at hm
  have hb := hm.below
  have H2 := Lib.hid (And.intro (H1.out.1.below hb) (And.intro (H1.out.2.1.trans (hb.mono H1.out.2.1.size)) (And.intro (H1.out.2.2.below hb) hm.swG)))
  clear H1 c1 hm hb
  have bX : Below w2.heap.size w2 ((w2.alloc (.cells (bagC nilB 0) 24)).setRow w2.heap.size (bagC (.slice A8 q8 d8) (n))) := below_setRow (box_below w2 _) (Nat.le_refl _) _
  go_wp2_with (first
    | (with_reducible show wpList _ _ _ (Oper.mk _ (Op.store 24 (.tmp 8) _) _ _ _ _ :: _) _ _
       refine wpList_storeR (c := bagC (.slice A8 q8 d8) (n)) rfl _ _ rfl rfl rfl aggB.hi (Rw.new w2 (bagC nilB 0) 24) rfl (bag_one _ _ _ _) ?_
       refine gen_w (fun Z => Rw Z w.heap.size 24 (bagC (.slice A0 gs.length c0) n) ∧ Rw Z w2.heap.size 24 (bagC (.slice A8 q8 d8) (n)) ∧ Below w.heap.size w Z ∧ SwG Z (.slice A0 gs.length c0) gs ∧ SwG Z (.slice A8 q8 d8) (gs))
         ⟨H2.out.1.below bX, (Rw.new w2 (bagC nilB 0) 24).setRow, H2.out.2.1.trans (bX.mono H2.out.2.1.size), H2.out.2.2.1.below bX, H2.out.2.2.2.below bX⟩ ?_
       rintro X3 hF
       clear H2 bX
       have H3 := Lib.hid hF
       clear hF
       generalize w2.heap.size = b8 at *)
    | (with_reducible show wpList _ _ _ (Oper.mk _ (Op.load 24 (.tmp 3)) _ _ _ _ :: _) _ _
       refine wpList_loadW H3.out.1 aggB rfl _ rfl rfl ?_))
  refine (Take_any _ n gs i _ H3.out.2.2.2.1 HL.out hn1).mono ?_; rintro e w4 ⟨A10, q10, d10, u, rfl, hm, hu⟩
  rw [hTK] at hm hu ⊢
  dsimp only at hm hu
  obtain ⟨Au, cu, rfl⟩ := (Sl.of_own hu).form
  rw [bv_length] at hu ⊢
  have hb := hm.below
  have H4 := Lib.hid (And.intro (H3.out.1.below hb) (And.intro (H3.out.2.1.below hb) (And.intro (H3.out.2.2.1.trans (hb.mono H3.out.2.2.1.size)) (And.intro (H3.out.2.2.2.1.below hb) (And.intro (H3.out.2.2.2.2.below hb) (And.intro hm.swG (Sl.of_own hu)))))))
  obtain ⟨z1, z2, B1⟩ := two_boxes w4 (bagC nilB 0) (noG.c nilB) 24 29
  have bY : Below w4.heap.size w4 ((((w4.alloc (.cells (bagC nilB 0) 24)).alloc (.cells (noG.c nilB) 29)).setRow w4.heap.size (bagC (.slice A10 q10 d10) n)).setRow (w4.heap.size + 1) ((noG).c (.slice Au (noG).bytes.length cu))) := below_setRow (below_setRow B1 (Nat.le_refl _) _) (by omega) _
  have HZ := Lib.hid (And.intro z1 z2)
  clear H3 hm hu hb z1 z2 B1
  go_wp2_with (first
    | (with_reducible show wpList _ _ _ (Oper.mk _ (Op.store 24 (.tmp 10) _) _ _ _ _ :: _) _ _
       refine wpList_storeR (c := bagC (.slice A10 q10 d10) n) rfl _ _ rfl rfl rfl aggB.hi HZ.out.1 rfl (bag_one _ _ _ _) ?_)
    | (with_reducible show wpList _ _ _ (Oper.mk _ (Op.store 29 (.tmp 11) _) _ _ _ _ :: _) _ _
       refine wpList_storeR (c := (noG).c (.slice Au (noG).bytes.length cu)) rfl _ _ rfl rfl rfl aggG.hi (HZ.out.2.setRow_other (by omega)) rfl (Gr.one _ _ _ _) ?_
       refine gen_w (fun Z => Rw Z w.heap.size 24 (bagC (.slice A0 gs.length c0) n) ∧ Rw Z b8 24 (bagC (.slice A8 q8 d8) (n)) ∧ Rw Z w4.heap.size 24 (bagC (.slice A10 q10 d10) n) ∧ Rw Z (w4.heap.size + 1) 29 ((noG).c (.slice Au (noG).bytes.length cu)) ∧ Below w.heap.size w Z ∧ SwG Z (.slice A0 gs.length c0) gs ∧ SwG Z (.slice A8 q8 d8) (gs) ∧ SwG Z (.slice A10 q10 d10) (gs) ∧ Sl Z (.slice Au (noG).bytes.length cu) (bv (noG).bytes))
         ⟨H4.out.1.below bY, H4.out.2.1.below bY, HZ.out.1.setRow.setRow_other (by omega), (HZ.out.2.setRow_other (by omega)).setRow, H4.out.2.2.1.trans (bY.mono H4.out.2.2.1.size), H4.out.2.2.2.1.below bY, H4.out.2.2.2.2.1.below bY, H4.out.2.2.2.2.2.1.below bY, H4.out.2.2.2.2.2.2.below bY⟩ ?_
       rintro X5 hF
       clear H4 bY HZ
       have H5 := Lib.hid hF
       clear hF
       generalize w4.heap.size = b10 at *))
  have HS := Lib.hid (show ∀ X, Below X5.heap.size X5 X → Below X5.heap.size X5 X ∧ X.cell? ⟨w.heap.size, 0, none⟩ = some (.slice A0 gs.length c0) ∧ X.cell? ⟨w.heap.size, 1, none⟩ = some (.int .i64 n) ∧ X.cell? ⟨b8, 0, none⟩ = some (.slice A8 q8 d8) ∧ X.cell? ⟨b8, 1, none⟩ = some (.int .i64 (n)) ∧ X.cell? ⟨b10, 0, none⟩ = some (.slice A10 q10 d10) ∧ X.cell? ⟨b10, 1, none⟩ = some (.int .i64 n) from fun X h =>
    ⟨h, (H5.out.1.below h).cell 0, (H5.out.1.below h).cell 1, (H5.out.2.1.below h).cell 0, (H5.out.2.1.below h).cell 1, (H5.out.2.2.1.below h).cell 0, (H5.out.2.2.1.below h).cell 1⟩)
  have K1 := Lib.hid (fun X (h : Below X5.heap.size X5 X) => For_any (.slice A0 gs.length c0) n gs to X (H5.out.2.2.2.2.2.1.below h) hn1)
  have K2 := Lib.hid (fun X (h : Below X5.heap.size X5 X) => For_any (.slice A8 q8 d8) (n) (gs) to X (H5.out.2.2.2.2.2.2.1.below h) hlO)
  have K3 := Lib.hid (fun X (h : Below X5.heap.size X5 X) => For_any (.slice A10 q10 d10) n (gs) to X (H5.out.2.2.2.2.2.2.2.1.below h) hlP)
  have R1 := Lib.hid (fun X (h : Below X5.heap.size X5 X) v (hv : Sl X v (iv (forK gs to gs.length))) => rising_any (.slice A0 gs.length c0) n gs to v X (H5.out.2.2.2.2.2.1.below h) hn1 hv)
  have R2 := Lib.hid (fun X (h : Below X5.heap.size X5 X) v (hv : Sl X v (iv (forK (gs) to (gs).length))) => rising_any (.slice A8 q8 d8) (n) (gs) to v X (H5.out.2.2.2.2.2.2.1.below h) hlO hv)
  have R3 := Lib.hid (fun X (h : Below X5.heap.size X5 X) v (hv : Sl X v (iv (forK (gs) to (gs).length))) => rising_any (.slice A10 q10 d10) n (gs) to v X (H5.out.2.2.2.2.2.2.2.1.below h) hlP hv)
  have hlOi := hlO
  refine wp_region_held_drew (S := (fun X => Below X5.heap.size X5 X ∧ X.cell? ⟨w.heap.size, 0, none⟩ = some (.slice A0 gs.length c0) ∧ X.cell? ⟨w.heap.size, 1, none⟩ = some (.int .i64 n) ∧ X.cell? ⟨b8, 0, none⟩ = some (.slice A8 q8 d8) ∧ X.cell? ⟨b8, 1, none⟩ = some (.int .i64 (n)) ∧ X.cell? ⟨b10, 0, none⟩ = some (.slice A10 q10 d10) ∧ X.cell? ⟨b10, 1, none⟩ = some (.int .i64 n))) (by kernel_rfl) (by first | exact HS.out _ (Below.refl _ _).drew | assumption | exact HS.out _ (by assumption)) (fun hHeld => ?_)
  refine wpAnyH_take (i := 0) (oi := { dst := some 38, op := .load 24 (.tmp 3), type := _, pos := _, after := _, guard := none }) (v := ?_) rfl (by kernel_rfl) (by kernel_rfl) (by kernel_rfl) (fun _ _ _ h => h) (Or.inl ⟨by rfl, ?_⟩) (by assumption) ?_
  rotate_left
  · (intro w hSw; (try dsimp only at hSw); go_simp; try (with_reducible rfl))
  try simp only [Act.put, List.setIfInBounds_toArray, List.set_cons_zero, List.set_cons_succ]
  refine wpAnyH_take (i := 1) (oi := { dst := some 39, op := .move (.tmp 2), type := _, pos := _, after := _, guard := none }) (v := ?_) rfl (by kernel_rfl) (by kernel_rfl) (by kernel_rfl) (fun _ _ _ h => h) (Or.inl ⟨by rfl, ?_⟩) (by assumption) ?_
  rotate_left
  · (intro w hSw; (try dsimp only at hSw); go_simp; try (with_reducible rfl))
  try simp only [Act.put, List.setIfInBounds_toArray, List.set_cons_zero, List.set_cons_succ]
  refine wpAnyH_take (i := 2) (oi := { dst := some 40, op := .load 24 (.tmp 3), type := _, pos := _, after := _, guard := none }) (v := ?_) rfl (by kernel_rfl) (by kernel_rfl) (by kernel_rfl) (fun _ _ _ h => h) (Or.inl ⟨by rfl, ?_⟩) (by assumption) ?_
  rotate_left
  · (intro w hSw; (try dsimp only at hSw); go_simp; try (with_reducible rfl))
  try simp only [Act.put, List.setIfInBounds_toArray, List.set_cons_zero, List.set_cons_succ]
  refine wpAnyH_take (i := 3) (oi := { dst := some 41, op := .move (.tmp 2), type := _, pos := _, after := _, guard := none }) (v := ?_) rfl (by kernel_rfl) (by kernel_rfl) (by kernel_rfl) (fun _ _ _ h => h) (Or.inl ⟨by rfl, ?_⟩) (by assumption) ?_
  rotate_left
  · (intro w hSw; (try dsimp only at hSw); go_simp; try (with_reducible rfl))
  try simp only [Act.put, List.setIfInBounds_toArray, List.set_cons_zero, List.set_cons_succ]
  refine wpAnyH_ready (rs := [4]) (by kernel_rfl) (by simp) ?_
  refine AllReadyH.cons (o := { dst := some 42, op := .call { callee := .value (.func 22), args := #[.tmp 40, .tmp 41], argTypes := #[24, 3] }, type := _, pos := _, after := _, guard := none }) rfl (fun K hK => ?_) AllReadyH.nil
  go_simp
  refine (K1.out _ (by first | exact (Below.refl _ _).drew | assumption)).mono ?_; rintro e y1 ⟨v1, rfl, hv1⟩; have hy1 : Below X5.heap.size X5 y1 := (Below.refl X5.heap.size X5).drew.trans hv1.below; obtain ⟨V1, k1, rfl⟩ := hv1.sl.form; have sv1 := hv1.sl; clear hv1
  refine hK.out _ _ (by first | exact HS.out _ (Below.refl _ _).drew | assumption | exact HS.out _ (by assumption)) (fun hHeld => ?_)
  clear hK K
  try simp only [Act.put, List.setIfInBounds_toArray, List.set_cons_zero, List.set_cons_succ]
  refine wpAnyH_ready (rs := [5]) (by kernel_rfl) (by simp) ?_
  refine AllReadyH.cons (o := { dst := some 43, op := .call { callee := .value (.func 29), args := #[.tmp 38, .tmp 39, .tmp 42], argTypes := #[24, 3, 39] }, type := _, pos := _, after := _, guard := none }) rfl (fun K hK => ?_) AllReadyH.nil
  go_simp
  refine (R1.out _ hy1 _ sv1).mono ?_; rintro e y2 ⟨rfl, hz2⟩; have hy2 : Below X5.heap.size X5 y2 := hy1.trans (hz2.mono hy1.size); clear hz2
  refine hK.out _ _ (by first | exact HS.out _ (Below.refl _ _).drew | assumption | exact HS.out _ (by assumption)) (fun hHeld => ?_)
  clear hK K
  try simp only [Act.put, List.setIfInBounds_toArray, List.set_cons_zero, List.set_cons_succ]
  refine wpAnyH_take (i := 6) (oi := { dst := some 44, op := .unOp .not 4 (.tmp 43), type := _, pos := _, after := _, guard := none }) (v := ?_) rfl (by kernel_rfl) (by kernel_rfl) (by kernel_rfl) (fun _ _ _ h => h) (Or.inl ⟨by rfl, ?_⟩) (by assumption) ?_
  rotate_left
  · (intro w hSw; (try dsimp only at hSw); go_simp; try (with_reducible rfl))
  try simp only [Act.put, List.setIfInBounds_toArray, List.set_cons_zero, List.set_cons_succ]
  refine wpAnyH_take (i := 7) (oi := { dst := some 45, op := .move (.tmp 44), type := _, pos := _, after := _, guard := none }) (v := ?_) rfl (by kernel_rfl) (by kernel_rfl) (by kernel_rfl) (fun _ _ _ h => h) (Or.inl ⟨by rfl, ?_⟩) (by assumption) ?_
  rotate_left
  · (intro w hSw; (try dsimp only at hSw); go_simp; try (with_reducible rfl))
  try simp only [Act.put, List.setIfInBounds_toArray, List.set_cons_zero, List.set_cons_succ]
  refine wpAnyH_take (i := 8) (oi := { dst := some 46, op := .load 24 (.tmp 8), type := _, pos := _, after := _, guard := some (7, false) }) (v := ?_) rfl (by kernel_rfl) (by kernel_rfl) (by kernel_rfl) (fun _ _ _ h => h) (Or.inl ⟨by rfl, ?_⟩) (by assumption) ?_
  rotate_left
  · (intro w hSw; (try dsimp only at hSw); go_simp; try (with_reducible rfl))
  try simp only [Act.put, List.setIfInBounds_toArray, List.set_cons_zero, List.set_cons_succ]
  refine wpAnyH_take (i := 9) (oi := { dst := some 47, op := .move (.tmp 2), type := _, pos := _, after := _, guard := some (7, false) }) (v := ?_) rfl (by kernel_rfl) (by kernel_rfl) (by kernel_rfl) (fun _ _ _ h => h) (Or.inl ⟨by rfl, ?_⟩) (by assumption) ?_
  rotate_left
  · (intro w hSw; (try dsimp only at hSw); go_simp; try (with_reducible rfl))
  try simp only [Act.put, List.setIfInBounds_toArray, List.set_cons_zero, List.set_cons_succ]
  refine wpAnyH_take (i := 10) (oi := { dst := some 48, op := .load 24 (.tmp 8), type := _, pos := _, after := _, guard := some (7, false) }) (v := ?_) rfl (by kernel_rfl) (by kernel_rfl) (by kernel_rfl) (fun _ _ _ h => h) (Or.inl ⟨by rfl, ?_⟩) (by assumption) ?_
  rotate_left
  · (intro w hSw; (try dsimp only at hSw); go_simp; try (with_reducible rfl))
  try simp only [Act.put, List.setIfInBounds_toArray, List.set_cons_zero, List.set_cons_succ]
  refine wpAnyH_take (i := 11) (oi := { dst := some 49, op := .move (.tmp 2), type := _, pos := _, after := _, guard := some (7, false) }) (v := ?_) rfl (by kernel_rfl) (by kernel_rfl) (by kernel_rfl) (fun _ _ _ h => h) (Or.inl ⟨by rfl, ?_⟩) (by assumption) ?_
  rotate_left
  · (intro w hSw; (try dsimp only at hSw); go_simp; try (with_reducible rfl))
  try simp only [Act.put, List.setIfInBounds_toArray, List.set_cons_zero, List.set_cons_succ]
  refine wpAnyH_ready (rs := [12]) (by kernel_rfl) (by simp) ?_
  refine AllReadyH.cons (o := { dst := some 50, op := .call { callee := .value (.func 22), args := #[.tmp 48, .tmp 49], argTypes := #[24, 3] }, type := _, pos := _, after := _, guard := some (7, false) }) rfl (fun K hK => ?_) AllReadyH.nil
  go_simp
  refine (K2.out _ hy2).mono ?_; rintro e y3 ⟨v3, rfl, hv3⟩; have hy3 : Below X5.heap.size X5 y3 := hy2.trans (hv3.below.mono hy2.size); obtain ⟨V3, k3, rfl⟩ := hv3.sl.form; have sv3 := hv3.sl; clear hv3
  refine hK.out _ _ (by first | exact HS.out _ (Below.refl _ _).drew | assumption | exact HS.out _ (by assumption)) (fun hHeld => ?_)
  clear hK K
  try simp only [Act.put, List.setIfInBounds_toArray, List.set_cons_zero, List.set_cons_succ]
  refine wpAnyH_ready (rs := [13]) (by kernel_rfl) (by simp) ?_
  refine AllReadyH.cons (o := { dst := some 51, op := .call { callee := .value (.func 29), args := #[.tmp 46, .tmp 47, .tmp 50], argTypes := #[24, 3, 39] }, type := _, pos := _, after := _, guard := some (7, false) }) rfl (fun K hK => ?_) AllReadyH.nil
  go_simp
  refine (R2.out _ hy3 _ sv3).mono ?_; rintro e y4 ⟨rfl, hz4⟩; have hy4 : Below X5.heap.size X5 y4 := hy3.trans (hz4.mono hy3.size); clear hz4
  refine hK.out _ _ (by first | exact HS.out _ (Below.refl _ _).drew | assumption | exact HS.out _ (by assumption)) (fun hHeld => ?_)
  clear hK K
  try simp only [Act.put, List.setIfInBounds_toArray, List.set_cons_zero, List.set_cons_succ]
  refine wpAnyH_take (i := 14) (oi := { dst := some 52, op := .unOp .not 4 (.tmp 51), type := _, pos := _, after := _, guard := some (7, false) }) (v := ?_) rfl (by kernel_rfl) (by kernel_rfl) (by kernel_rfl) (fun _ _ _ h => h) (Or.inl ⟨by rfl, ?_⟩) (by assumption) ?_
  rotate_left
  · (intro w hSw; (try dsimp only at hSw); go_simp; try (with_reducible rfl))
  try simp only [Act.put, List.setIfInBounds_toArray, List.set_cons_zero, List.set_cons_succ]
  refine wpAnyH_take (i := 15) (oi := { dst := some 53, op := .pick (.tmp 45) (.const (.bool true)) (.tmp 52), type := _, pos := _, after := _, guard := none }) (v := ?_) rfl (by kernel_rfl) (by kernel_rfl) (by kernel_rfl) (fun _ _ _ h => h) (Or.inl ⟨by rfl, ?_⟩) (by assumption) ?_
  rotate_left
  · (intro w hSw; (try dsimp only at hSw); go_simp; try (with_reducible rfl))
  try simp only [Act.put, List.setIfInBounds_toArray, List.set_cons_zero, List.set_cons_succ]
  refine wpAnyH_take (i := 16) (oi := { dst := some 54, op := .move (.tmp 53), type := _, pos := _, after := _, guard := none }) (v := ?_) rfl (by kernel_rfl) (by kernel_rfl) (by kernel_rfl) (fun _ _ _ h => h) (Or.inl ⟨by rfl, ?_⟩) (by assumption) ?_
  rotate_left
  · (intro w hSw; (try dsimp only at hSw); go_simp; try (with_reducible rfl))
  try simp only [Act.put, List.setIfInBounds_toArray, List.set_cons_zero, List.set_cons_succ]
  refine wpAnyH_take (i := 17) (oi := { dst := some 55, op := .load 24 (.tmp 10), type := _, pos := _, after := _, guard := some (16, false) }) (v := ?_) rfl (by kernel_rfl) (by kernel_rfl) (by kernel_rfl) (fun _ _ _ h => h) (Or.inl ⟨by rfl, ?_⟩) (by assumption) ?_
  rotate_left
  · (intro w hSw; (try dsimp only at hSw); go_simp; try (with_reducible rfl))
  try simp only [Act.put, List.setIfInBounds_toArray, List.set_cons_zero, List.set_cons_succ]
  refine wpAnyH_take (i := 18) (oi := { dst := some 56, op := .move (.tmp 2), type := _, pos := _, after := _, guard := some (16, false) }) (v := ?_) rfl (by kernel_rfl) (by kernel_rfl) (by kernel_rfl) (fun _ _ _ h => h) (Or.inl ⟨by rfl, ?_⟩) (by assumption) ?_
  rotate_left
  · (intro w hSw; (try dsimp only at hSw); go_simp; try (with_reducible rfl))
  try simp only [Act.put, List.setIfInBounds_toArray, List.set_cons_zero, List.set_cons_succ]
  refine wpAnyH_take (i := 19) (oi := { dst := some 57, op := .load 24 (.tmp 10), type := _, pos := _, after := _, guard := some (16, false) }) (v := ?_) rfl (by kernel_rfl) (by kernel_rfl) (by kernel_rfl) (fun _ _ _ h => h) (Or.inl ⟨by rfl, ?_⟩) (by assumption) ?_
  rotate_left
  · (intro w hSw; (try dsimp only at hSw); go_simp; try (with_reducible rfl))
  try simp only [Act.put, List.setIfInBounds_toArray, List.set_cons_zero, List.set_cons_succ]
  refine wpAnyH_take (i := 20) (oi := { dst := some 58, op := .move (.tmp 2), type := _, pos := _, after := _, guard := some (16, false) }) (v := ?_) rfl (by kernel_rfl) (by kernel_rfl) (by kernel_rfl) (fun _ _ _ h => h) (Or.inl ⟨by rfl, ?_⟩) (by assumption) ?_
  rotate_left
  · (intro w hSw; (try dsimp only at hSw); go_simp; try (with_reducible rfl))
  try simp only [Act.put, List.setIfInBounds_toArray, List.set_cons_zero, List.set_cons_succ]
  refine wpAnyH_ready (rs := [21]) (by kernel_rfl) (by simp) ?_
  refine AllReadyH.cons (o := { dst := some 59, op := .call { callee := .value (.func 22), args := #[.tmp 57, .tmp 58], argTypes := #[24, 3] }, type := _, pos := _, after := _, guard := some (16, false) }) rfl (fun K hK => ?_) AllReadyH.nil
  go_simp
  refine (K3.out _ hy4).mono ?_; rintro e y5 ⟨v5, rfl, hv5⟩; have hy5 : Below X5.heap.size X5 y5 := hy4.trans (hv5.below.mono hy4.size); obtain ⟨V5, k5, rfl⟩ := hv5.sl.form; have sv5 := hv5.sl; clear hv5
  refine hK.out _ _ (by first | exact HS.out _ (Below.refl _ _).drew | assumption | exact HS.out _ (by assumption)) (fun hHeld => ?_)
  clear hK K
  try simp only [Act.put, List.setIfInBounds_toArray, List.set_cons_zero, List.set_cons_succ]
  refine wpAnyH_ready (rs := [22]) (by kernel_rfl) (by simp) ?_
  refine AllReadyH.cons (o := { dst := some 60, op := .call { callee := .value (.func 29), args := #[.tmp 55, .tmp 56, .tmp 59], argTypes := #[24, 3, 39] }, type := _, pos := _, after := _, guard := some (16, false) }) rfl (fun K hK => ?_) AllReadyH.nil
  go_simp
  refine (R3.out _ hy5 _ sv5).mono ?_; rintro e y6 ⟨rfl, hz6⟩; have hy6 : Below X5.heap.size X5 y6 := hy5.trans (hz6.mono hy5.size); clear hz6
  refine hK.out _ _ (by first | exact HS.out _ (Below.refl _ _).drew | assumption | exact HS.out _ (by assumption)) (fun hHeld => ?_)
  clear hK K
  try simp only [Act.put, List.setIfInBounds_toArray, List.set_cons_zero, List.set_cons_succ]
  refine wpAnyH_take (i := 23) (oi := { dst := some 61, op := .unOp .not 4 (.tmp 60), type := _, pos := _, after := _, guard := some (16, false) }) (v := ?_) rfl (by kernel_rfl) (by kernel_rfl) (by kernel_rfl) (fun _ _ _ h => h) (Or.inl ⟨by rfl, ?_⟩) (by assumption) ?_
  rotate_left
  · (intro w hSw; (try dsimp only at hSw); go_simp; try (with_reducible rfl))
  try simp only [Act.put, List.setIfInBounds_toArray, List.set_cons_zero, List.set_cons_succ]
  refine wpAnyH_take (i := 24) (oi := { dst := some 62, op := .pick (.tmp 54) (.const (.bool true)) (.tmp 61), type := _, pos := _, after := _, guard := none }) (v := ?_) rfl (by kernel_rfl) (by kernel_rfl) (by kernel_rfl) (fun _ _ _ h => h) (Or.inl ⟨by rfl, ?_⟩) (by assumption) ?_
  rotate_left
  · (intro w hSw; (try dsimp only at hSw); go_simp; try (with_reducible rfl))
  try simp only [Act.put, List.setIfInBounds_toArray, List.set_cons_zero, List.set_cons_succ]
  refine wpAnyH_take (i := 25) (oi := { dst := some 63, op := .move (.tmp 62), type := _, pos := _, after := _, guard := none }) (v := ?_) rfl (by kernel_rfl) (by kernel_rfl) (by kernel_rfl) (fun _ _ _ h => h) (Or.inl ⟨by rfl, ?_⟩) (by assumption) ?_
  rotate_left
  · (intro w hSw; (try dsimp only at hSw); go_simp; try (with_reducible rfl))
  try simp only [Act.put, List.setIfInBounds_toArray, List.set_cons_zero, List.set_cons_succ]
  refine wpAnyH_take (i := 26) (oi := { dst := some 64, op := .move (.tmp 12), type := _, pos := _, after := _, guard := some (25, false) }) (v := ?_) rfl (by kernel_rfl) (by kernel_rfl) (by kernel_rfl) (fun _ _ _ h => h) (Or.inl ⟨by rfl, ?_⟩) (by assumption) ?_
  rotate_left
  · (intro w hSw; (try dsimp only at hSw); go_simp; try (with_reducible rfl))
  try simp only [Act.put, List.setIfInBounds_toArray, List.set_cons_zero, List.set_cons_succ]
  refine wpAnyH_take (i := 27) (oi := { dst := some 65, op := .move (.tmp 9), type := _, pos := _, after := _, guard := some (25, false) }) (v := ?_) rfl (by kernel_rfl) (by kernel_rfl) (by kernel_rfl) (fun _ _ _ h => h) (Or.inl ⟨by rfl, ?_⟩) (by assumption) ?_
  rotate_left
  · (intro w hSw; (try dsimp only at hSw); go_simp; try (with_reducible rfl))
  try simp only [Act.put, List.setIfInBounds_toArray, List.set_cons_zero, List.set_cons_succ]
  refine wpAnyH_take (i := 28) (oi := { dst := some 66, op := .binOp .eql 35 (.tmp 65) (.const (.int .i64 0)) 35, type := _, pos := _, after := _, guard := some (25, false) }) (v := ?_) rfl (by kernel_rfl) (by kernel_rfl) (by kernel_rfl) (fun _ _ _ h => h) (Or.inl ⟨by rfl, ?_⟩) (by assumption) ?_
  rotate_left
  · (intro w hSw; (try dsimp only at hSw); go_simp; try (with_reducible rfl))
  try simp only [Act.put, List.setIfInBounds_toArray, List.set_cons_zero, List.set_cons_succ]
  refine wpAnyH_take (i := 29) (oi := { dst := some 67, op := .binOp .neq 4 (.tmp 64) (.tmp 66) 4, type := _, pos := _, after := _, guard := some (25, false) }) (v := ?_) rfl (by kernel_rfl) (by kernel_rfl) (by kernel_rfl) (fun _ _ _ h => h) (Or.inl ⟨by rfl, ?_⟩) (by assumption) ?_
  rotate_left
  · (intro w hSw; (try dsimp only at hSw); go_simp; try (with_reducible rfl))
  try simp only [Act.put, List.setIfInBounds_toArray, List.set_cons_zero, List.set_cons_succ]
  refine wpAnyH_take (i := 30) (oi := { dst := some 68, op := .pick (.tmp 63) (.const (.bool true)) (.tmp 67), type := _, pos := _, after := _, guard := none }) (v := ?_) rfl (by kernel_rfl) (by kernel_rfl) (by kernel_rfl) (fun _ _ _ h => h) (Or.inl ⟨by rfl, ?_⟩) (by assumption) ?_
  rotate_left
  · (intro w hSw; (try dsimp only at hSw); go_simp; try (with_reducible rfl))
  try simp only [Act.put, List.setIfInBounds_toArray, List.set_cons_zero, List.set_cons_succ]
  refine wpAnyH_take (i := 31) (oi := { dst := some 69, op := .move (.tmp 68), type := _, pos := _, after := _, guard := none }) (v := ?_) rfl (by kernel_rfl) (by kernel_rfl) (by kernel_rfl) (fun _ _ _ h => h) (Or.inl ⟨by rfl, ?_⟩) (by assumption) ?_
  rotate_left
  · (intro w hSw; (try dsimp only at hSw); go_simp; try (with_reducible rfl))
  try simp only [Act.put, List.setIfInBounds_toArray, List.set_cons_zero, List.set_cons_succ]
  refine wpAnyH_take (i := 32) (oi := { dst := some 70, op := .move (.tmp 12), type := _, pos := _, after := _, guard := some (31, false) }) (v := ?_) rfl (by kernel_rfl) (by kernel_rfl) (by kernel_rfl) (fun _ _ _ h => h) (Or.inl ⟨by rfl, ?_⟩) (by assumption) ?_
  rotate_left
  · (intro w hSw; (try dsimp only at hSw); go_simp; try (with_reducible rfl))
  try simp only [Act.put, List.setIfInBounds_toArray, List.set_cons_zero, List.set_cons_succ]
  refine wpAnyH_take (i := 33) (oi := { dst := some 71, op := .move (.tmp 1), type := _, pos := _, after := _, guard := some (31, false) }) (v := ?_) rfl (by kernel_rfl) (by kernel_rfl) (by kernel_rfl) (fun _ _ _ h => h) (Or.inl ⟨by rfl, ?_⟩) (by assumption) ?_
  rotate_left
  · (intro w hSw; (try dsimp only at hSw); go_simp; try (with_reducible rfl))
  try simp only [Act.put, List.setIfInBounds_toArray, List.set_cons_zero, List.set_cons_succ]
  refine wpAnyH_take (i := 34) (oi := { dst := some 72, op := .binOp .geq 3 (.tmp 71) (.const (.int .i64 0)) 3, type := _, pos := _, after := _, guard := some (31, false) }) (v := ?_) rfl (by kernel_rfl) (by kernel_rfl) (by kernel_rfl) (fun _ _ _ h => h) (Or.inl ⟨by rfl, ?_⟩) (by assumption) ?_
  rotate_left
  · (intro w hSw; (try dsimp only at hSw); go_simp; try (with_reducible rfl))
  try simp only [Act.put, List.setIfInBounds_toArray, List.set_cons_zero, List.set_cons_succ]
  refine wpAnyH_take (i := 35) (oi := { dst := some 73, op := .move (.tmp 72), type := _, pos := _, after := _, guard := some (31, false) }) (v := ?_) rfl (by kernel_rfl) (by kernel_rfl) (by kernel_rfl) (fun _ _ _ h => h) (Or.inl ⟨by rfl, ?_⟩) (by assumption) ?_
  rotate_left
  · (intro w hSw; (try dsimp only at hSw); go_simp; try (with_reducible rfl))
  try simp only [Act.put, List.setIfInBounds_toArray, List.set_cons_zero, List.set_cons_succ]
  refine wpAnyH_take (i := 36) (oi := { dst := some 74, op := .move (.tmp 1), type := _, pos := _, after := _, guard := some (35, true) }) (v := undef) rfl (by kernel_rfl) (by kernel_rfl) (by kernel_rfl) (fun _ _ _ h => h) (Or.inr ⟨by rfl, rfl⟩) (by assumption) ?_
  try simp only [Act.put, List.setIfInBounds_toArray, List.set_cons_zero, List.set_cons_succ]
  refine wpAnyH_take (i := 37) (oi := { dst := some 75, op := .move (.tmp 7), type := _, pos := _, after := _, guard := some (35, true) }) (v := undef) rfl (by kernel_rfl) (by kernel_rfl) (by kernel_rfl) (fun _ _ _ h => h) (Or.inr ⟨by rfl, rfl⟩) (by assumption) ?_
  try simp only [Act.put, List.setIfInBounds_toArray, List.set_cons_zero, List.set_cons_succ]
  refine wpAnyH_take (i := 38) (oi := { dst := some 76, op := .binOp .lss 3 (.tmp 74) (.tmp 75) 3, type := _, pos := _, after := _, guard := some (35, true) }) (v := undef) rfl (by kernel_rfl) (by kernel_rfl) (by kernel_rfl) (fun _ _ _ h => h) (Or.inr ⟨by rfl, rfl⟩) (by assumption) ?_
  try simp only [Act.put, List.setIfInBounds_toArray, List.set_cons_zero, List.set_cons_succ]
  refine wpAnyH_take (i := 39) (oi := { dst := some 77, op := .pick (.tmp 73) (.tmp 76) (.const (.bool false)), type := _, pos := _, after := _, guard := some (31, false) }) (v := ?_) rfl (by kernel_rfl) (by kernel_rfl) (by kernel_rfl) (fun _ _ _ h => h) (Or.inl ⟨by rfl, ?_⟩) (by assumption) ?_
  rotate_left
  · (intro w hSw; (try dsimp only at hSw); go_simp; try (with_reducible rfl))
  try simp only [Act.put, List.setIfInBounds_toArray, List.set_cons_zero, List.set_cons_succ]
  refine wpAnyH_take (i := 40) (oi := { dst := some 78, op := .binOp .neq 4 (.tmp 70) (.tmp 77) 4, type := _, pos := _, after := _, guard := some (31, false) }) (v := ?_) rfl (by kernel_rfl) (by kernel_rfl) (by kernel_rfl) (fun _ _ _ h => h) (Or.inl ⟨by rfl, ?_⟩) (by assumption) ?_
  rotate_left
  · (intro w hSw; (try dsimp only at hSw); go_simp; try (with_reducible rfl))
  try simp only [Act.put, List.setIfInBounds_toArray, List.set_cons_zero, List.set_cons_succ]
  refine wpAnyH_take (i := 41) (oi := { dst := some 79, op := .pick (.tmp 69) (.const (.bool true)) (.tmp 78), type := _, pos := _, after := _, guard := none }) (v := ?_) rfl (by kernel_rfl) (by kernel_rfl) (by kernel_rfl) (fun _ _ _ h => h) (Or.inl ⟨by rfl, ?_⟩) (by assumption) ?_
  rotate_left
  · (intro w hSw; (try dsimp only at hSw); go_simp; try (with_reducible rfl))
  try simp only [Act.put, List.setIfInBounds_toArray, List.set_cons_zero, List.set_cons_succ]
  refine wpAnyH_done (by kernel_rfl) ?_ _
  all_goals (
    have G0 := Lib.hid (And.intro (H5.out.1.below hy6) (And.intro (H5.out.2.1.below hy6) (And.intro (H5.out.2.2.1.below hy6) (And.intro (H5.out.2.2.2.2.1.trans (hy6.mono H5.out.2.2.2.2.1.size)) (And.intro (H5.out.2.2.2.2.2.1.below hy6) (And.intro (H5.out.2.2.2.2.2.2.1.below hy6) (H5.out.2.2.2.2.2.2.2.1.below hy6)))))))
    clear H5 HS K1 K2 K3 R1 R2 R3 hy1 hy2 hy3 hy4 hy5 hy6
    go_wp2_with (first
      | (with_reducible show wpList _ _ _ (Oper.mk _ (Op.load 24 (.tmp 8)) _ _ _ _ :: _) _ _
         refine wpList_loadW G0.out.2.1 aggB rfl _ rfl rfl ?_)
      | (with_reducible show wpList _ _ _ (Oper.mk _ (Op.load 24 (.tmp 3)) _ _ _ _ :: _) _ _
         refine wpList_loadW G0.out.1 aggB rfl _ rfl rfl ?_))
    refine (rsame_any _ _ n n gs gs _ G0.out.2.2.2.2.2.1 G0.out.2.2.2.2.1).mono ?_; rintro e z1 ⟨rfl, h1⟩
    rw [same_yes]
    have G1 := Lib.hid (And.intro (G0.out.1.below h1) (And.intro (G0.out.2.2.1.below h1) (And.intro (G0.out.2.2.2.1.trans (h1.mono G0.out.2.2.2.1.size)) (And.intro (G0.out.2.2.2.2.1.below h1) (G0.out.2.2.2.2.2.2.below h1)))))
    clear G0 h1
    go_wp2_with (first
      | (with_reducible show wpList _ _ _ (Oper.mk _ (Op.load 24 (.tmp 10)) _ _ _ _ :: _) _ _
         refine wpList_loadW G1.out.2.1 aggB rfl _ rfl rfl ?_)
      | (with_reducible show wpList _ _ _ (Oper.mk _ (Op.load 24 (.tmp 3)) _ _ _ _ :: _) _ _
         refine wpList_loadW G1.out.1 aggB rfl _ rfl rfl ?_))
    refine (rsame_any _ _ n n gs gs _ G1.out.2.2.2.2 G1.out.2.2.2.1).mono ?_; rintro e z2 ⟨rfl, h2⟩
    rw [same_yes]
    have G2 := Lib.hid (G1.out.2.2.1.trans (h2.mono G1.out.2.2.1.size))
    clear G1 h2
    go_wp2_with fail
    refine (wakes_any _).mono ?_; rintro e z3 ⟨rfl, h3⟩
    have G3 := Lib.hid (G2.out.trans (h3.mono G2.out.size))
    clear G2 h3
    go_wp2
    go_ret
    exact ⟨rfl, G3.out⟩)
set_option maxHeartbeats 8000000 in
theorem for_high (s : Value) (n : Int) (gs : List Gr) (i to : Int) (w : World) (hs : SwG w s gs) (hg : greatG gs = false) (hl4 : gs.length ≤ 400) (hp : pick gs i = none) (hi : 0 ≤ i) :
    Calls Try.prog 7 #[.agg (bagC s n), .int .i64 i, .int .i64 to] w fun e w' => e = .returned (.bool true) ∧ Below w.heap.size w w' := by
  obtain ⟨A0, c0, rfl⟩ := hs.form
  have r1 := Rw.new w (bagC (.slice A0 gs.length c0) n) 24
  have B0 := box_below w (.cells (bagC (.slice A0 gs.length c0) n) 24)
  have H0 := Lib.hid (And.intro r1 (And.intro B0 (hs.below B0)))
  have c1 := r1.cell
  clear r1 B0 hs
  obtain ⟨hn420, hl300⟩ := great_no hg
  have hl : ∀ g ∈ gs, g.bytes.length ≤ 1000 := fun g h => by have := hl300 g h; omega
  have HL := Lib.hid hl
  have e4 : decide ((gs.length : Int) > 400) = false := decide_eq_false (by omega)
  have e5 : decide (400 < (gs.length : Int)) = false := decide_eq_false (by omega)
  have hn1 : gs.length ≤ 1000 := by omega
  have hTW : twiceS gs n i = (gs, n, 2) := by unfold twiceS; rw [hp]
  have hTK : takeS gs i = (gs, noG, false) := by unfold takeS; rw [hp]
  have hlO : gs.length ≤ 1000 := hn1
  have hlP : gs.length ≤ 1000 := hn1
  have hpn := pick_none hp
  have d1 : decide (i ≥ 0) = true := decide_eq_true (by omega)
  have d2 : decide (0 ≤ i) = true := decide_eq_true (by omega)
  have d3 : decide (i < (gs.length : Int)) = false := decide_eq_false (by omega)
  clear hp hpn
  clear hl hl300 hn420
  go_enter Try.func7, Try.ntmps7
  go_wp2_with (first
    | (with_reducible show wpList _ _ _ (Oper.mk _ (Op.load 24 (.tmp 3)) _ _ _ _ :: _) _ _
       refine wpList_loadW H0.out.1 aggB rfl _ rfl rfl ?_))
  refine (rGreat_any _ n gs _ H0.out.2.2).mono ?_; rintro e w1 ⟨rfl, hb1⟩
  rw [hg]
  have H1 := Lib.hid (And.intro (H0.out.1.below hb1) (And.intro (H0.out.2.1.trans (hb1.mono H0.out.2.1.size)) (H0.out.2.2.below hb1)))
  have c1 := H1.out.1.cell
  clear H0 hb1 hg
  go_wp2_with (first
    | (with_reducible show wpList _ _ _ (Oper.mk _ (Op.load 24 (.tmp 3)) _ _ _ _ :: _) _ _
       refine wpList_loadW H1.out.1 aggB rfl _ rfl rfl ?_))
  refine (Twice_any _ n gs i _ H1.out.2.2 HL.out hn1).mono ?_; rintro e w2 ⟨A8, q8, d8, rfl, hm⟩
  rw [hTW] at hm ⊢
  dsimp only at hm
  have hb := hm.below
  have H2 := Lib.hid (And.intro (H1.out.1.below hb) (And.intro (H1.out.2.1.trans (hb.mono H1.out.2.1.size)) (And.intro (H1.out.2.2.below hb) hm.swG)))
  clear H1 c1 hm hb
  have bX : Below w2.heap.size w2 ((w2.alloc (.cells (bagC nilB 0) 24)).setRow w2.heap.size (bagC (.slice A8 q8 d8) (n))) := below_setRow (box_below w2 _) (Nat.le_refl _) _
  go_wp2_with (first
    | (with_reducible show wpList _ _ _ (Oper.mk _ (Op.store 24 (.tmp 8) _) _ _ _ _ :: _) _ _
       refine wpList_storeR (c := bagC (.slice A8 q8 d8) (n)) rfl _ _ rfl rfl rfl aggB.hi (Rw.new w2 (bagC nilB 0) 24) rfl (bag_one _ _ _ _) ?_
       refine gen_w (fun Z => Rw Z w.heap.size 24 (bagC (.slice A0 gs.length c0) n) ∧ Rw Z w2.heap.size 24 (bagC (.slice A8 q8 d8) (n)) ∧ Below w.heap.size w Z ∧ SwG Z (.slice A0 gs.length c0) gs ∧ SwG Z (.slice A8 q8 d8) (gs))
         ⟨H2.out.1.below bX, (Rw.new w2 (bagC nilB 0) 24).setRow, H2.out.2.1.trans (bX.mono H2.out.2.1.size), H2.out.2.2.1.below bX, H2.out.2.2.2.below bX⟩ ?_
       rintro X3 hF
       clear H2 bX
       have H3 := Lib.hid hF
       clear hF
       generalize w2.heap.size = b8 at *)
    | (with_reducible show wpList _ _ _ (Oper.mk _ (Op.load 24 (.tmp 3)) _ _ _ _ :: _) _ _
       refine wpList_loadW H3.out.1 aggB rfl _ rfl rfl ?_))
  refine (Take_any _ n gs i _ H3.out.2.2.2.1 HL.out hn1).mono ?_; rintro e w4 ⟨A10, q10, d10, u, rfl, hm, hu⟩
  rw [hTK] at hm hu ⊢
  dsimp only at hm hu
  obtain ⟨Au, cu, rfl⟩ := (Sl.of_own hu).form
  rw [bv_length] at hu ⊢
  have hb := hm.below
  have H4 := Lib.hid (And.intro (H3.out.1.below hb) (And.intro (H3.out.2.1.below hb) (And.intro (H3.out.2.2.1.trans (hb.mono H3.out.2.2.1.size)) (And.intro (H3.out.2.2.2.1.below hb) (And.intro (H3.out.2.2.2.2.below hb) (And.intro hm.swG (Sl.of_own hu)))))))
  obtain ⟨z1, z2, B1⟩ := two_boxes w4 (bagC nilB 0) (noG.c nilB) 24 29
  have bY : Below w4.heap.size w4 ((((w4.alloc (.cells (bagC nilB 0) 24)).alloc (.cells (noG.c nilB) 29)).setRow w4.heap.size (bagC (.slice A10 q10 d10) n)).setRow (w4.heap.size + 1) ((noG).c (.slice Au (noG).bytes.length cu))) := below_setRow (below_setRow B1 (Nat.le_refl _) _) (by omega) _
  have HZ := Lib.hid (And.intro z1 z2)
  clear H3 hm hu hb z1 z2 B1
  go_wp2_with (first
    | (with_reducible show wpList _ _ _ (Oper.mk _ (Op.store 24 (.tmp 10) _) _ _ _ _ :: _) _ _
       refine wpList_storeR (c := bagC (.slice A10 q10 d10) n) rfl _ _ rfl rfl rfl aggB.hi HZ.out.1 rfl (bag_one _ _ _ _) ?_)
    | (with_reducible show wpList _ _ _ (Oper.mk _ (Op.store 29 (.tmp 11) _) _ _ _ _ :: _) _ _
       refine wpList_storeR (c := (noG).c (.slice Au (noG).bytes.length cu)) rfl _ _ rfl rfl rfl aggG.hi (HZ.out.2.setRow_other (by omega)) rfl (Gr.one _ _ _ _) ?_
       refine gen_w (fun Z => Rw Z w.heap.size 24 (bagC (.slice A0 gs.length c0) n) ∧ Rw Z b8 24 (bagC (.slice A8 q8 d8) (n)) ∧ Rw Z w4.heap.size 24 (bagC (.slice A10 q10 d10) n) ∧ Rw Z (w4.heap.size + 1) 29 ((noG).c (.slice Au (noG).bytes.length cu)) ∧ Below w.heap.size w Z ∧ SwG Z (.slice A0 gs.length c0) gs ∧ SwG Z (.slice A8 q8 d8) (gs) ∧ SwG Z (.slice A10 q10 d10) (gs) ∧ Sl Z (.slice Au (noG).bytes.length cu) (bv (noG).bytes))
         ⟨H4.out.1.below bY, H4.out.2.1.below bY, HZ.out.1.setRow.setRow_other (by omega), (HZ.out.2.setRow_other (by omega)).setRow, H4.out.2.2.1.trans (bY.mono H4.out.2.2.1.size), H4.out.2.2.2.1.below bY, H4.out.2.2.2.2.1.below bY, H4.out.2.2.2.2.2.1.below bY, H4.out.2.2.2.2.2.2.below bY⟩ ?_
       rintro X5 hF
       clear H4 bY HZ
       have H5 := Lib.hid hF
       clear hF
       generalize w4.heap.size = b10 at *))
  have HS := Lib.hid (show ∀ X, Below X5.heap.size X5 X → Below X5.heap.size X5 X ∧ X.cell? ⟨w.heap.size, 0, none⟩ = some (.slice A0 gs.length c0) ∧ X.cell? ⟨w.heap.size, 1, none⟩ = some (.int .i64 n) ∧ X.cell? ⟨b8, 0, none⟩ = some (.slice A8 q8 d8) ∧ X.cell? ⟨b8, 1, none⟩ = some (.int .i64 (n)) ∧ X.cell? ⟨b10, 0, none⟩ = some (.slice A10 q10 d10) ∧ X.cell? ⟨b10, 1, none⟩ = some (.int .i64 n) from fun X h =>
    ⟨h, (H5.out.1.below h).cell 0, (H5.out.1.below h).cell 1, (H5.out.2.1.below h).cell 0, (H5.out.2.1.below h).cell 1, (H5.out.2.2.1.below h).cell 0, (H5.out.2.2.1.below h).cell 1⟩)
  have K1 := Lib.hid (fun X (h : Below X5.heap.size X5 X) => For_any (.slice A0 gs.length c0) n gs to X (H5.out.2.2.2.2.2.1.below h) hn1)
  have K2 := Lib.hid (fun X (h : Below X5.heap.size X5 X) => For_any (.slice A8 q8 d8) (n) (gs) to X (H5.out.2.2.2.2.2.2.1.below h) hlO)
  have K3 := Lib.hid (fun X (h : Below X5.heap.size X5 X) => For_any (.slice A10 q10 d10) n (gs) to X (H5.out.2.2.2.2.2.2.2.1.below h) hlP)
  have R1 := Lib.hid (fun X (h : Below X5.heap.size X5 X) v (hv : Sl X v (iv (forK gs to gs.length))) => rising_any (.slice A0 gs.length c0) n gs to v X (H5.out.2.2.2.2.2.1.below h) hn1 hv)
  have R2 := Lib.hid (fun X (h : Below X5.heap.size X5 X) v (hv : Sl X v (iv (forK (gs) to (gs).length))) => rising_any (.slice A8 q8 d8) (n) (gs) to v X (H5.out.2.2.2.2.2.2.1.below h) hlO hv)
  have R3 := Lib.hid (fun X (h : Below X5.heap.size X5 X) v (hv : Sl X v (iv (forK (gs) to (gs).length))) => rising_any (.slice A10 q10 d10) n (gs) to v X (H5.out.2.2.2.2.2.2.2.1.below h) hlP hv)
  have hlOi := hlO
  first | (go_region_held3 (fun X => Below X5.heap.size X5 X ∧ X.cell? ⟨w.heap.size, 0, none⟩ = some (.slice A0 gs.length c0) ∧ X.cell? ⟨w.heap.size, 1, none⟩ = some (.int .i64 n) ∧ X.cell? ⟨b8, 0, none⟩ = some (.slice A8 q8 d8) ∧ X.cell? ⟨b8, 1, none⟩ = some (.int .i64 (n)) ∧ X.cell? ⟨b10, 0, none⟩ = some (.slice A10 q10 d10) ∧ X.cell? ⟨b10, 1, none⟩ = some (.int .i64 n))
    (first
      | exact HS.out _ (Below.refl _ _).drew
      | assumption
      | exact HS.out _ (by assumption))
    (first
      | (go_at_call_of 22 (Value.slice A0 gs.length c0); refine (K1.out _ (by first | exact (Below.refl _ _).drew | assumption)).mono ?_; rintro e y1 ⟨v1, rfl, hv1⟩; have hy1 : Below X5.heap.size X5 y1 := (Below.refl X5.heap.size X5).drew.trans hv1.below; obtain ⟨V1, k1, rfl⟩ := hv1.sl.form; have sv1 := hv1.sl; clear hv1)
      | (go_at_call_of 29 (Value.slice A0 gs.length c0); refine (R1.out _ hy1 _ sv1).mono ?_; rintro e y2 ⟨rfl, hz2⟩; have hy2 : Below X5.heap.size X5 y2 := hy1.trans (hz2.mono hy1.size); clear hz2)
      | (go_at_call_of 22 (Value.slice A8 q8 d8); refine (K2.out _ hy2).mono ?_; rintro e y3 ⟨v3, rfl, hv3⟩; have hy3 : Below X5.heap.size X5 y3 := hy2.trans (hv3.below.mono hy2.size); obtain ⟨V3, k3, rfl⟩ := hv3.sl.form; have sv3 := hv3.sl; clear hv3)
      | (go_at_call_of 29 (Value.slice A8 q8 d8); refine (R2.out _ hy3 _ sv3).mono ?_; rintro e y4 ⟨rfl, hz4⟩; have hy4 : Below X5.heap.size X5 y4 := hy3.trans (hz4.mono hy3.size); clear hz4)
      | (go_at_call_of 22 (Value.slice A10 q10 d10); refine (K3.out _ hy4).mono ?_; rintro e y5 ⟨v5, rfl, hv5⟩; have hy5 : Below X5.heap.size X5 y5 := hy4.trans (hv5.below.mono hy4.size); obtain ⟨V5, k5, rfl⟩ := hv5.sl.form; have sv5 := hv5.sl; clear hv5)
      | (go_at_call_of 29 (Value.slice A10 q10 d10); refine (R3.out _ hy5 _ sv5).mono ?_; rintro e y6 ⟨rfl, hz6⟩; have hy6 : Below X5.heap.size X5 y6 := hy5.trans (hz6.mono hy5.size); clear hz6))) | fail
  all_goals (
    have G0 := Lib.hid (And.intro (H5.out.1.below hy6) (And.intro (H5.out.2.1.below hy6) (And.intro (H5.out.2.2.1.below hy6) (And.intro (H5.out.2.2.2.2.1.trans (hy6.mono H5.out.2.2.2.2.1.size)) (And.intro (H5.out.2.2.2.2.2.1.below hy6) (And.intro (H5.out.2.2.2.2.2.2.1.below hy6) (H5.out.2.2.2.2.2.2.2.1.below hy6)))))))
    clear H5 HS K1 K2 K3 R1 R2 R3 hy1 hy2 hy3 hy4 hy5 hy6
    go_wp2_with (first
      | (with_reducible show wpList _ _ _ (Oper.mk _ (Op.load 24 (.tmp 8)) _ _ _ _ :: _) _ _
         refine wpList_loadW G0.out.2.1 aggB rfl _ rfl rfl ?_)
      | (with_reducible show wpList _ _ _ (Oper.mk _ (Op.load 24 (.tmp 3)) _ _ _ _ :: _) _ _
         refine wpList_loadW G0.out.1 aggB rfl _ rfl rfl ?_))
    refine (rsame_any _ _ n n gs gs _ G0.out.2.2.2.2.2.1 G0.out.2.2.2.2.1).mono ?_; rintro e z1 ⟨rfl, h1⟩
    rw [same_yes]
    have G1 := Lib.hid (And.intro (G0.out.1.below h1) (And.intro (G0.out.2.2.1.below h1) (And.intro (G0.out.2.2.2.1.trans (h1.mono G0.out.2.2.2.1.size)) (And.intro (G0.out.2.2.2.2.1.below h1) (G0.out.2.2.2.2.2.2.below h1)))))
    clear G0 h1
    go_wp2_with (first
      | (with_reducible show wpList _ _ _ (Oper.mk _ (Op.load 24 (.tmp 10)) _ _ _ _ :: _) _ _
         refine wpList_loadW G1.out.2.1 aggB rfl _ rfl rfl ?_)
      | (with_reducible show wpList _ _ _ (Oper.mk _ (Op.load 24 (.tmp 3)) _ _ _ _ :: _) _ _
         refine wpList_loadW G1.out.1 aggB rfl _ rfl rfl ?_))
    refine (rsame_any _ _ n n gs gs _ G1.out.2.2.2.2 G1.out.2.2.2.1).mono ?_; rintro e z2 ⟨rfl, h2⟩
    rw [same_yes]
    have G2 := Lib.hid (G1.out.2.2.1.trans (h2.mono G1.out.2.2.1.size))
    clear G1 h2
    go_wp2_with fail
    refine (wakes_any _).mono ?_; rintro e z3 ⟨rfl, h3⟩
    have G3 := Lib.hid (G2.out.trans (h3.mono G2.out.size))
    clear G2 h3
    go_wp2
    go_ret
    exact ⟨rfl, G3.out⟩)
set_option maxHeartbeats 8000000 in
theorem for_wakes (s : Value) (n : Int) (gs : List Gr) (i to : Int) (w : World) (hs : SwG w s gs) (hg : greatG gs = true ∨ (greatG gs = false ∧ 400 < gs.length)) :
    Calls Try.prog 7 #[.agg (bagC s n), .int .i64 i, .int .i64 to] w fun e w' => e = .returned (.bool true) ∧ Below w.heap.size w w' := by
  obtain ⟨A0, c0, rfl⟩ := hs.form
  have r1 := Rw.new w (bagC (.slice A0 gs.length c0) n) 24
  have B0 := box_below w (.cells (bagC (.slice A0 gs.length c0) n) 24)
  have H0 := Lib.hid (And.intro r1 (And.intro B0 (hs.below B0)))
  have c1 := r1.cell
  clear r1 B0 hs
  have hlen : (gs.length : Int) ≤ gs.length := Int.le_refl _
  go_enter Try.func7, Try.ntmps7
  go_wp2_with (first
    | (with_reducible show wpList _ _ _ (Oper.mk _ (Op.load 24 (.tmp 3)) _ _ _ _ :: _) _ _
       refine wpList_loadW H0.out.1 aggB rfl _ rfl rfl ?_))
  refine (rGreat_any _ n gs _ H0.out.2.2).mono ?_; rintro e w1 ⟨rfl, hb1⟩
  have H1 := Lib.hid (And.intro (H0.out.1.below hb1) (H0.out.2.1.trans (hb1.mono H0.out.2.1.size)))
  have c1 := H1.out.1.cell
  clear H0 hb1
  rcases hg with hg | ⟨hg, h4⟩
  all_goals rw [hg]
  · go_wp2_with fail
    refine (wakes_any _).mono ?_; rintro e z3 ⟨rfl, h3⟩
    have G3 := Lib.hid (H1.out.2.trans (h3.mono H1.out.2.size))
    clear H1 h3
    go_wp2
    go_ret
    exact ⟨rfl, G3.out⟩
  · have e4 : decide ((gs.length : Int) > 400) = true := decide_eq_true (by omega)
    have e5 : decide (400 < (gs.length : Int)) = true := decide_eq_true (by omega)
    go_wp2_with fail
    refine (wakes_any _).mono ?_; rintro e z3 ⟨rfl, h3⟩
    have G3 := Lib.hid (H1.out.2.trans (h3.mono H1.out.2.size))
    clear H1 h3
    go_wp2
    go_ret
    exact ⟨rfl, G3.out⟩
end Go.Proofs.Ytdoigpifkdkjpaa
