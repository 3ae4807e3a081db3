/- 'BagOwn': the walk of the law. -/
import Derived.Test.YtdoigpifkdkjpaaBCountLaw
import Derived.Test.YtdoigpifkdkjpaaBOwnF
set_option linter.unusedVariables false
set_option maxRecDepth 100000
set_option linter.unusedSimpArgs false
namespace Go.Proofs.Ytdoigpifkdkjpaa
open Go.RowKit Go.Shelf Ms

theorem gen_K {K : Act → World → Prop} {a : Act} {w : World} (p : World → Prop) (hp : p w) (h : ∀ X, p X → K a X) : K a w := h w hp
set_option maxHeartbeats 40000000 in
theorem own_ok (s : Value) (n : Int) (gs : List Gr) (g : Gr) (u : Value) (i j : Int) (w : World) (hs : SwG w s gs) (hu : Sw w u (bv g.bytes)) (h40 : gs.length ≤ 40) (hg : greatG gs = false) (hb : g.bytes.length ≤ 300) :
    Calls Try.prog 6 #[.agg (bagC s n), .agg (g.c u), .int .i64 i, .int .i64 j] w fun e w' => e = .returned (.bool true) ∧ Below w.heap.size w w' := by
  obtain ⟨A0, c0, rfl⟩ := hs.form
  obtain ⟨Au, cu, rfl⟩ := hu.form
  rw [bv_length] at hu ⊢
  obtain ⟨r1, r2, B0⟩ := two_boxes w (bagC (.slice A0 gs.length c0) n) (g.c (.slice Au g.bytes.length cu)) 24 29
  have H0 := (((Fs.nil _).snoc (.base w) B0).snoc (.row w.heap.size 24 (bagC (.slice A0 gs.length c0) n)) r1).snoc (.row (w.heap.size + 1) 29 (g.c (.slice Au g.bytes.length cu))) r2
  simp only [List.nil_append, List.cons_append] at H0
  have c4 := (H0.rowAt 1 rfl).cell
  have HS := Lib.hid hs
  have HU := Lib.hid hu
  have HGB := Lib.hid hb
  obtain ⟨hn420, hl300⟩ := great_no hg
  have HL := Lib.hid (show ∀ g ∈ gs, g.bytes.length ≤ 1000 from fun g h => by have := hl300 g h; omega)
  have hn1 : gs.length ≤ 1000 := by omega
  have e1 : decide ((gs.length : Int) > 40) = false := decide_eq_false (by omega)
  have e2 : decide (40 < (gs.length : Int)) = false := decide_eq_false (by omega)
  have e3 : decide ((g.bytes.length : Int) > 300) = false := decide_eq_false (by omega)
  have e4 : decide (300 < (g.bytes.length : Int)) = false := decide_eq_false (by omega)
  clear r1 r2 B0 hs hu hl300 hn420 hb
  go_enter Try.func6, Try.ntmps6
  go_wp2_with (first
    | (with_reducible show wpList _ _ _ (Oper.mk _ (Op.load 24 (.tmp 4)) _ _ _ _ :: _) _ _
       refine wpList_loadW (H0.rowAt 1 rfl) aggB rfl _ rfl rfl ?_))
  refine (rGreat_any _ n gs _ (HS.out.below (H0.baseAt 0 rfl))).mono ?_; rintro e w1 ⟨rfl, hb1⟩
  rw [hg]
  replace H0 := H0.call hb1
  have c5 := (H0.rowAt 2 rfl).cell
  clear hb1 c4
  go_wp2_with (first
    | (with_reducible show wpList _ _ _ (Oper.mk _ (Op.load 24 (.tmp 4)) _ _ _ _ :: _) _ _
       refine wpList_loadW (H0.rowAt 1 rfl) aggB rfl _ rfl rfl ?_))
  have hx0 := (H0.rowAt 2 rfl).lt
  refine (rOwn_any _ n gs _ (HS.out.below (H0.baseAt 0 rfl)) HL.out hn1).mono ?_; rintro e w2 ⟨A9, q9, k9, rfl, hm⟩
  have hw12 := hm.below.size
  replace H0 := (((H0.call hm.below).snoc (.own (fun k => w1.heap.size ≤ k ∧ k < w2.heap.size) 29 _ _) (hm.ownP.imp fun k h1 h2 => ⟨h2, h1⟩)).alloc (.cells (bagC nilB 0) 24)).snoc (.row w2.heap.size _ _) (Rw.new w2 (bagC nilB 0) 24)
  simp only [List.nil_append, List.cons_append] at H0
  clear hm c5
  go_wp2_with (first
    | (with_reducible show wpList _ _ _ (Oper.mk _ (Op.store 24 (.tmp 9) _) _ _ _ _ :: _) _ _
       refine wpList_storeR (c := bagC (.slice A9 q9 k9) n) rfl _ _ rfl rfl rfl aggB.hi (H0.rowAt 4 rfl) rfl (bag_one _ _ _ _) ?_
       replace H0 := H0.setRow 4 rfl (bagC (.slice A9 q9 k9) n) (by simp [aparts, F.row_fp, F.base_fp, F.own_fp, F.bytes_fp, -Nat.not_le, -Nat.not_lt] <;> omega)
       simp only [List.set_cons_zero, List.set_cons_succ] at H0
       refine Fs.gen H0 ?_
       clear H0
       rintro X3 H0))
  have hx3 := (H0.rowAt 4 rfl).lt
  have HQ := Lib.hid (show ∀ X, Below X3.heap.size X3 X → Below X3.heap.size X3 X ∧ X.cell? ⟨w.heap.size + 1, 0, none⟩ = some (.int .i64 g.to) ∧ X.cell? ⟨w.heap.size + 1, 1, none⟩ = some (.slice Au g.bytes.length cu) ∧ X.cell? ⟨w.heap.size + 1, 2, none⟩ = some (.bool g.harm) from fun X h =>
    ⟨h, ((H0.call h).rowAt 2 rfl).cell 0, ((H0.call h).rowAt 2 rfl).cell 1, ((H0.call h).rowAt 2 rfl).cell 2⟩)
  go_upto_region 4 with fail
  try simp only [Act.put]
  go_cut [10] from 43 to 51 (fun x W => ∃ (b10 : Nat) (A1 : Option Addr) (c1 : Nat), x = .pointer (some ⟨b10, 0, none⟩) ∧ Rw W b10 29 (g.c (.slice A1 g.bytes.length c1)) ∧ W.ownsRow X3.heap.size 5 1 (.slice A1 g.bytes.length c1) g.bytes.length (bv g.bytes) ∧ (∀ k, (Value.slice A1 g.bytes.length c1).ownBlock = some k → k ≠ b10) ∧ X3.heap.size ≤ b10 ∧ Below X3.heap.size X3 W)
  case first =>
        have hgb := HGB.out
        refine wp_region_held_drew (S := (fun X => Below X3.heap.size X3 X ∧ X.cell? ⟨w.heap.size + 1, 0, none⟩ = some (.int .i64 g.to) ∧ X.cell? ⟨w.heap.size + 1, 1, none⟩ = some (.slice Au g.bytes.length cu) ∧ X.cell? ⟨w.heap.size + 1, 2, none⟩ = some (.bool g.harm))) (by kernel_rfl) (by first | exact HQ.out _ (Below.refl _ _).drew | assumption | exact HQ.out _ (by assumption)) (fun hHeld => ?_)
        refine wpAnyH_take (i := 0) (oi := { dst := some 43, op := .fieldAddr 29 (.tmp 5) 0, type := _, pos := _, after := _, guard := none }) (v := ?_) rfl (by kernel_rfl) (by kernel_rfl) (by kernel_rfl) (fun _ _ _ h => h) (Or.inl ⟨by rfl, ?_⟩) (by assumption) ?_
        rotate_left
        · (intro w hSw; (try dsimp only at hSw); go_simp; try (with_reducible rfl))
        try simp only [Act.put, List.setIfInBounds_toArray, List.set_cons_zero, List.set_cons_succ]
        refine wpAnyH_take (i := 1) (oi := { dst := some 44, op := .load 3 (.tmp 43), type := _, pos := _, after := _, guard := none }) (v := ?_) rfl (by kernel_rfl) (by kernel_rfl) (by kernel_rfl) (fun _ _ _ h => h) (Or.inl ⟨by rfl, ?_⟩) (by assumption) ?_
        rotate_left
        · (intro w hSw; (try dsimp only at hSw); go_simp; try (with_reducible rfl))
        try simp only [Act.put, List.setIfInBounds_toArray, List.set_cons_zero, List.set_cons_succ]
        refine wpAnyH_take (i := 3) (oi := { dst := some 46, op := .fieldAddr 29 (.tmp 5) 1, type := _, pos := _, after := _, guard := none }) (v := ?_) rfl (by kernel_rfl) (by kernel_rfl) (by kernel_rfl) (fun _ _ _ h => h) (Or.inl ⟨by rfl, ?_⟩) (by assumption) ?_
        rotate_left
        · (intro w hSw; (try dsimp only at hSw); go_simp; try (with_reducible rfl))
        try simp only [Act.put, List.setIfInBounds_toArray, List.set_cons_zero, List.set_cons_succ]
        refine wpAnyH_take (i := 4) (oi := { dst := some 47, op := .load 27 (.tmp 46), type := _, pos := _, after := _, guard := none }) (v := ?_) rfl (by kernel_rfl) (by kernel_rfl) (by kernel_rfl) (fun _ _ _ h => h) (Or.inl ⟨by rfl, ?_⟩) (by assumption) ?_
        rotate_left
        · (intro w hSw; (try dsimp only at hSw); go_simp; try (with_reducible rfl))
        try simp only [Act.put, List.setIfInBounds_toArray, List.set_cons_zero, List.set_cons_succ]
        refine wpAnyH_take (i := 6) (oi := { dst := some 49, op := .fieldAddr 29 (.tmp 5) 2, type := _, pos := _, after := _, guard := none }) (v := ?_) rfl (by kernel_rfl) (by kernel_rfl) (by kernel_rfl) (fun _ _ _ h => h) (Or.inl ⟨by rfl, ?_⟩) (by assumption) ?_
        rotate_left
        · (intro w hSw; (try dsimp only at hSw); go_simp; try (with_reducible rfl))
        try simp only [Act.put, List.setIfInBounds_toArray, List.set_cons_zero, List.set_cons_succ]
        refine wpAnyH_take (i := 7) (oi := { dst := some 50, op := .load 4 (.tmp 49), type := _, pos := _, after := _, guard := none }) (v := ?_) rfl (by kernel_rfl) (by kernel_rfl) (by kernel_rfl) (fun _ _ _ h => h) (Or.inl ⟨by rfl, ?_⟩) (by assumption) ?_
        rotate_left
        · (intro w hSw; (try dsimp only at hSw); go_simp; try (with_reducible rfl))
        try simp only [Act.put, List.setIfInBounds_toArray, List.set_cons_zero, List.set_cons_succ]
        refine wpAnyH_ready (rs := [2, 9]) (by kernel_rfl) (by simp) ?_
        refine AllReadyH.cons (o := { dst := some 45, op := .buildSlice 27 0 #[], type := _, pos := _, after := _, guard := none }) rfl (fun K hK => ?_) (AllReadyH.cons (o := { dst := some 10, op := .alloc 29, type := _, pos := _, after := _, guard := none }) rfl (fun K hK => ?_) AllReadyH.nil)
        · refine step_buildS (parts := []) rfl rfl rfl (run_none8 _) ?_
          refine gen_K (fun X => X.ownsRow X3.heap.size 5 1 (.slice (some ⟨X3.heap.size, 0, none⟩) 0 0) 0 [] ∧ Below X3.heap.size X3 X ∧ X.heap.size = X3.heap.size + 1) ⟨⟨rfl, .inr ⟨_, 0, #[], rfl, Nat.le_refl _, heap_alloc_new _ _, by decide, by decide, rfl, rfl⟩⟩, (Below.refl X3.heap.size X3).drew.alloc (Nat.le_refl _) _, by simp⟩ ?_
          clear hHeld
          rintro z2 ⟨hE, hBz, hzz⟩
          replace hzz := Lib.hid hzz
          refine hK.out _ _ (by first | exact HQ.out _ (Below.refl _ _).drew | assumption | exact HQ.out _ (by assumption)) (fun hHeld => ?_)
          clear hK K
          try simp only [Act.put, List.setIfInBounds_toArray, List.set_cons_zero, List.set_cons_succ]
          refine wpAnyH_ready (rs := [5, 9]) (by kernel_rfl) (by simp) ?_
          refine AllReadyH.cons (o := { dst := some 48, op := .call { callee := .builtin .append, args := #[.tmp 45, .tmp 47], argTypes := #[27, 27] }, type := _, pos := _, after := _, guard := none }) rfl (fun K hK => ?_) (AllReadyH.cons (o := { dst := some 10, op := .alloc 29, type := _, pos := _, after := _, guard := none }) rfl (fun K hK => ?_) AllReadyH.nil)
          · refine step_more_w (w0 := X3) elB rfl (.tmp 45) (.tmp 47) rfl rfl (v := .slice (some ⟨X3.heap.size, 0, none⟩) 0 0) (xs := []) ⟨hE, hBz⟩ rfl (HU.out.below ((H0.call hBz).baseAt 0 rfl)) (bv_one _) (by rw [bv_length]; simp; omega) ?_
            intro v1 z25 hm1 hg1 hv1
            have hO : z25.ownsRow X3.heap.size 5 1 v1 g.bytes.length (bv g.bytes) := by have := hm1.own; rw [List.nil_append, bv_length] at this; exact this
            have hBo := hBz.size
            replace hBz := hm1.below
            clear hm1 hg1 hE hv1
            obtain ⟨A1, c1, rfl⟩ := (Sl.of_own hO).form
            rw [bv_length] at *
            refine hK.out _ _ (by first | exact HQ.out _ (Below.refl _ _).drew | assumption | exact HQ.out _ (by assumption)) (fun hHeld => ?_)
            clear hK K
            try simp only [Act.put, List.setIfInBounds_toArray, List.set_cons_zero, List.set_cons_succ]
            refine wpAnyH_take (i := 8) (oi := { dst := some 51, op := .build 29 #[(0, .tmp 44), (1, .tmp 48), (2, .tmp 50)], type := _, pos := _, after := _, guard := none }) (v := ?_) rfl (by kernel_rfl) (by kernel_rfl) (by kernel_rfl) (fun _ _ _ h => h) (Or.inl ⟨by rfl, ?_⟩) (by assumption) ?_
            rotate_left
            · (intro w hSw; (try dsimp only at hSw); go_simp; try (with_reducible rfl))
            try simp only [Act.put, List.setIfInBounds_toArray, List.set_cons_zero, List.set_cons_succ]
            refine wpAnyH_ready (rs := [9]) (by kernel_rfl) (by simp) ?_
            refine AllReadyH.cons (o := { dst := some 10, op := .alloc 29, type := _, pos := _, after := _, guard := none }) rfl (fun K hK => ?_) AllReadyH.nil
            go_simp
            have hX10 : X3.heap.size ≤ z25.heap.size := hBz.size
            have hne : ∀ k, (Value.slice A1 g.bytes.length c1).ownBlock = some k → k ≠ z25.heap.size := fun k e => by have := (hO.lt k e).2; omega
            refine gen_K (fun X => Rw X z25.heap.size 29 (noG.c nilB) ∧ Below X3.heap.size X3 X ∧ X.heap.size = z25.heap.size + 1 ∧ X.ownsRow X3.heap.size 5 1 (.slice A1 g.bytes.length c1) g.bytes.length (bv g.bytes)) ⟨Rw.new _ _ _, hBz.alloc hBz.size _, by simp, owns_below hO (box_below _ _)⟩ ?_
            clear hBz hO
            rintro z259 ⟨hb10, hBz, hzs, hO⟩
            generalize z25.heap.size = b10 at *
            replace hzs := Lib.hid hzs
            refine hK.out _ _ (by first | exact HQ.out _ (Below.refl _ _).drew | assumption | exact HQ.out _ (by assumption)) (fun hHeld => ?_)
            clear hK K
            try simp only [Act.put, List.setIfInBounds_toArray, List.set_cons_zero, List.set_cons_succ]
            refine wpAnyH_ready (rs := [10]) (by kernel_rfl) (by simp) ?_
            refine AllReadyH.cons (o := { dst := none, op := .store 29 (.tmp 10) (.tmp 51), type := _, pos := _, after := _, guard := none }) rfl (fun K hK => ?_) AllReadyH.nil
            refine step_storeRow (c := g.c (.slice A1 g.bytes.length c1)) rfl (.tmp 10) (.tmp 51) rfl rfl rfl aggG.hi hb10 rfl (Gr.one _ _ _ _) ?_
            have hb11 := Rw.setRow (c := noG.c nilB) (c' := g.c (.slice A1 g.bytes.length c1)) hb10
            have hO1 := owns_still hO (w' := z259.setRow b10 (g.c (.slice A1 g.bytes.length c1))) (fun k e => Go.setRow_other _ _ _ _ (hne k e))
            have hB1 := below_setRow hBz hX10 (g.c (.slice A1 g.bytes.length c1))
            refine hK.out _ _ (by first | exact HQ.out _ (Below.refl _ _).drew | assumption | exact HQ.out _ (by assumption)) (fun hHeld => ?_)
            clear hK K
            try simp only [Act.put, List.setIfInBounds_toArray, List.set_cons_zero, List.set_cons_succ]
            refine wpAnyH_done (by kernel_rfl) ?_ _
            clear hHeld
            go_wp2_with fail
            go_meet
            exact ⟨b10, A1, c1, rfl, hb11, hO1, hne, hX10, hB1⟩
          · go_simp
            have hX10 : X3.heap.size ≤ z2.heap.size := hBz.size
            have hne : X3.heap.size ≠ z2.heap.size := by have h' : X3.heap.size < z2.heap.size := (hE.lt _ rfl).2; omega
            refine gen_K (fun X => Rw X z2.heap.size 29 (noG.c nilB) ∧ Below X3.heap.size X3 X ∧ X.heap.size = z2.heap.size + 1 ∧ X.ownsRow X3.heap.size 5 1 (.slice (some ⟨X3.heap.size, 0, none⟩) 0 0) 0 []) ⟨Rw.new _ _ _, hBz.alloc hBz.size _, by simp, owns_below hE (box_below _ _)⟩ ?_
            clear hBz hE
            rintro z29 ⟨hb10, hBz, hzs, hE⟩
            generalize z2.heap.size = b10 at *
            replace hzs := Lib.hid hzs
            refine hK.out _ _ (by first | exact HQ.out _ (Below.refl _ _).drew | assumption | exact HQ.out _ (by assumption)) (fun hHeld => ?_)
            clear hK K
            try simp only [Act.put, List.setIfInBounds_toArray, List.set_cons_zero, List.set_cons_succ]
            refine wpAnyH_ready (rs := [5]) (by kernel_rfl) (by simp) ?_
            refine AllReadyH.cons (o := { dst := some 48, op := .call { callee := .builtin .append, args := #[.tmp 45, .tmp 47], argTypes := #[27, 27] }, type := _, pos := _, after := _, guard := none }) rfl (fun K hK => ?_) AllReadyH.nil
            refine step_more_w (w0 := X3) elB rfl (.tmp 45) (.tmp 47) rfl rfl (v := .slice (some ⟨X3.heap.size, 0, none⟩) 0 0) (xs := []) ⟨hE, hBz⟩ rfl (HU.out.below ((H0.call hBz).baseAt 0 rfl)) (bv_one _) (by rw [bv_length]; simp; omega) ?_
            intro v1 z295 hm1 hg1 hv1
            have hO : z295.ownsRow X3.heap.size 5 1 v1 g.bytes.length (bv g.bytes) := by have := hm1.own; rw [List.nil_append, bv_length] at this; exact this
            have hBo := hBz.size
            replace hBz := hm1.below
            have hlt := hb10.lt
            replace hb10 : Rw z295 b10 29 (noG.c nilB) := (hg1.block b10 hb10.lt (by intro e; injection e with e; dsimp only at e; omega)).trans hb10
            replace hne : ∀ k, v1.ownBlock = some k → k ≠ b10 := fun k e => by
              rcases hv1 with h | h
              · rw [h] at e; injection e with e; (try dsimp only at e); omega
              · rw [h] at e; injection e with e; (try dsimp only at e); omega
            clear hm1 hg1 hE hv1
            obtain ⟨A1, c1, rfl⟩ := (Sl.of_own hO).form
            rw [bv_length] at *
            refine hK.out _ _ (by first | exact HQ.out _ (Below.refl _ _).drew | assumption | exact HQ.out _ (by assumption)) (fun hHeld => ?_)
            clear hK K
            try simp only [Act.put, List.setIfInBounds_toArray, List.set_cons_zero, List.set_cons_succ]
            refine wpAnyH_take (i := 8) (oi := { dst := some 51, op := .build 29 #[(0, .tmp 44), (1, .tmp 48), (2, .tmp 50)], type := _, pos := _, after := _, guard := none }) (v := ?_) rfl (by kernel_rfl) (by kernel_rfl) (by kernel_rfl) (fun _ _ _ h => h) (Or.inl ⟨by rfl, ?_⟩) (by assumption) ?_
            rotate_left
            · (intro w hSw; (try dsimp only at hSw); go_simp; try (with_reducible rfl))
            try simp only [Act.put, List.setIfInBounds_toArray, List.set_cons_zero, List.set_cons_succ]
            refine wpAnyH_ready (rs := [10]) (by kernel_rfl) (by simp) ?_
            refine AllReadyH.cons (o := { dst := none, op := .store 29 (.tmp 10) (.tmp 51), type := _, pos := _, after := _, guard := none }) rfl (fun K hK => ?_) AllReadyH.nil
            refine step_storeRow (c := g.c (.slice A1 g.bytes.length c1)) rfl (.tmp 10) (.tmp 51) rfl rfl rfl aggG.hi hb10 rfl (Gr.one _ _ _ _) ?_
            have hb11 := Rw.setRow (c := noG.c nilB) (c' := g.c (.slice A1 g.bytes.length c1)) hb10
            have hO1 := owns_still hO (w' := z295.setRow b10 (g.c (.slice A1 g.bytes.length c1))) (fun k e => Go.setRow_other _ _ _ _ (hne k e))
            have hB1 := below_setRow hBz hX10 (g.c (.slice A1 g.bytes.length c1))
            refine hK.out _ _ (by first | exact HQ.out _ (Below.refl _ _).drew | assumption | exact HQ.out _ (by assumption)) (fun hHeld => ?_)
            clear hK K
            try simp only [Act.put, List.setIfInBounds_toArray, List.set_cons_zero, List.set_cons_succ]
            refine wpAnyH_done (by kernel_rfl) ?_ _
            clear hHeld
            go_wp2_with fail
            go_meet
            exact ⟨b10, A1, c1, rfl, hb11, hO1, hne, hX10, hB1⟩
        · go_simp
          have hX10 : X3.heap.size ≤ X3.heap.size := Nat.le_refl _
          refine gen_K (fun X => Rw X X3.heap.size 29 (noG.c nilB) ∧ Below X3.heap.size X3 X ∧ X.heap.size = X3.heap.size + 1) ⟨Rw.new _ _ _, (Below.refl X3.heap.size X3).drew.alloc (Nat.le_refl _) _, by simp⟩ ?_
          clear hHeld
          rintro z9 ⟨hb10, hBz, hzs⟩
          replace hzs := Lib.hid hzs
          refine hK.out _ _ (by first | exact HQ.out _ (Below.refl _ _).drew | assumption | exact HQ.out _ (by assumption)) (fun hHeld => ?_)
          clear hK K
          try simp only [Act.put, List.setIfInBounds_toArray, List.set_cons_zero, List.set_cons_succ]
          refine wpAnyH_ready (rs := [2]) (by kernel_rfl) (by simp) ?_
          refine AllReadyH.cons (o := { dst := some 45, op := .buildSlice 27 0 #[], type := _, pos := _, after := _, guard := none }) rfl (fun K hK => ?_) AllReadyH.nil
          refine step_buildS (parts := []) rfl rfl rfl (run_none8 _) ?_
          have hlt := hb10.lt
          refine gen_K (fun X => X.ownsRow X3.heap.size 5 1 (.slice (some ⟨z9.heap.size, 0, none⟩) 0 0) 0 [] ∧ Below X3.heap.size X3 X ∧ X.heap.size = z9.heap.size + 1 ∧ Rw X X3.heap.size 29 (noG.c nilB)) ⟨⟨rfl, .inr ⟨_, 0, #[], rfl, hBz.size, heap_alloc_new _ _, by decide, by decide, rfl, rfl⟩⟩, hBz.alloc hBz.size _, by simp, hb10.alloc _⟩ ?_
          clear hBz hb10
          rintro z92 ⟨hE, hBz, hzz, hb10⟩
          generalize z9.heap.size = bE at *
          have hne : bE ≠ X3.heap.size := by omega
          replace hzz := Lib.hid hzz
          refine hK.out _ _ (by first | exact HQ.out _ (Below.refl _ _).drew | assumption | exact HQ.out _ (by assumption)) (fun hHeld => ?_)
          clear hK K
          try simp only [Act.put, List.setIfInBounds_toArray, List.set_cons_zero, List.set_cons_succ]
          refine wpAnyH_ready (rs := [5]) (by kernel_rfl) (by simp) ?_
          refine AllReadyH.cons (o := { dst := some 48, op := .call { callee := .builtin .append, args := #[.tmp 45, .tmp 47], argTypes := #[27, 27] }, type := _, pos := _, after := _, guard := none }) rfl (fun K hK => ?_) AllReadyH.nil
          refine step_more_w (w0 := X3) elB rfl (.tmp 45) (.tmp 47) rfl rfl (v := .slice (some ⟨bE, 0, none⟩) 0 0) (xs := []) ⟨hE, hBz⟩ rfl (HU.out.below ((H0.call hBz).baseAt 0 rfl)) (bv_one _) (by rw [bv_length]; simp; omega) ?_
          intro v1 z925 hm1 hg1 hv1
          have hO : z925.ownsRow X3.heap.size 5 1 v1 g.bytes.length (bv g.bytes) := by have := hm1.own; rw [List.nil_append, bv_length] at this; exact this
          have hBo := hBz.size
          replace hBz := hm1.below
          have hlt := hb10.lt
          replace hb10 : Rw z925 X3.heap.size 29 (noG.c nilB) := (hg1.block X3.heap.size hb10.lt (by intro e; injection e with e; dsimp only at e; omega)).trans hb10
          replace hne : ∀ k, v1.ownBlock = some k → k ≠ X3.heap.size := fun k e => by
            rcases hv1 with h | h
            · rw [h] at e; injection e with e; (try dsimp only at e); omega
            · rw [h] at e; injection e with e; (try dsimp only at e); omega
          clear hm1 hg1 hE hv1
          obtain ⟨A1, c1, rfl⟩ := (Sl.of_own hO).form
          rw [bv_length] at *
          refine hK.out _ _ (by first | exact HQ.out _ (Below.refl _ _).drew | assumption | exact HQ.out _ (by assumption)) (fun hHeld => ?_)
          clear hK K
          try simp only [Act.put, List.setIfInBounds_toArray, List.set_cons_zero, List.set_cons_succ]
          refine wpAnyH_take (i := 8) (oi := { dst := some 51, op := .build 29 #[(0, .tmp 44), (1, .tmp 48), (2, .tmp 50)], type := _, pos := _, after := _, guard := none }) (v := ?_) rfl (by kernel_rfl) (by kernel_rfl) (by kernel_rfl) (fun _ _ _ h => h) (Or.inl ⟨by rfl, ?_⟩) (by assumption) ?_
          rotate_left
          · (intro w hSw; (try dsimp only at hSw); go_simp; try (with_reducible rfl))
          try simp only [Act.put, List.setIfInBounds_toArray, List.set_cons_zero, List.set_cons_succ]
          refine wpAnyH_ready (rs := [10]) (by kernel_rfl) (by simp) ?_
          refine AllReadyH.cons (o := { dst := none, op := .store 29 (.tmp 10) (.tmp 51), type := _, pos := _, after := _, guard := none }) rfl (fun K hK => ?_) AllReadyH.nil
          refine step_storeRow (c := g.c (.slice A1 g.bytes.length c1)) rfl (.tmp 10) (.tmp 51) rfl rfl rfl aggG.hi hb10 rfl (Gr.one _ _ _ _) ?_
          have hb11 := Rw.setRow (c := noG.c nilB) (c' := g.c (.slice A1 g.bytes.length c1)) hb10
          have hO1 := owns_still hO (w' := z925.setRow X3.heap.size (g.c (.slice A1 g.bytes.length c1))) (fun k e => Go.setRow_other _ _ _ _ (hne k e))
          have hB1 := below_setRow hBz hX10 (g.c (.slice A1 g.bytes.length c1))
          refine hK.out _ _ (by first | exact HQ.out _ (Below.refl _ _).drew | assumption | exact HQ.out _ (by assumption)) (fun hHeld => ?_)
          clear hK K
          try simp only [Act.put, List.setIfInBounds_toArray, List.set_cons_zero, List.set_cons_succ]
          refine wpAnyH_done (by kernel_rfl) ?_ _
          clear hHeld
          go_wp2_with fail
          go_meet
          exact ⟨X3.heap.size, A1, c1, rfl, hb11, hO1, hne, hX10, hB1⟩

  case rest =>
    obtain ⟨b10, A1, c1, rfl, hb10, hO, hne, hX10, hB⟩ := hcut
    replace H0 := ((H0.call hB).snoc (.bytes (fun k => X3.heap.size ≤ k ∧ k ≠ b10 ∧ k < wc.heap.size) (.slice A1 g.bytes.length c1) g.bytes) ⟨owns_mono hO (Nat.zero_le _), fun k e => ⟨(hO.lt k e).1, hne k e, (hO.lt k e).2⟩⟩).snoc (.row b10 _ _) hb10
    simp only [List.nil_append, List.cons_append] at H0
    have hb10lt := hb10.lt
    clear hb10 hO hne hB HQ
    obtain ⟨⟨S1, S2⟩, hSS⟩ : ∃ T, sendS (gs, n) [g] = T := ⟨_, rfl⟩
    obtain ⟨⟨T1, Tg, Tb⟩, hT⟩ : ∃ T, takeS gs i = T := ⟨_, rfl⟩
    obtain ⟨⟨D1, D2, D3⟩, hD⟩ : ∃ T, dropS gs n i = T := ⟨_, rfl⟩
    obtain ⟨⟨U1, U2, U3⟩, hUU⟩ : ∃ T, twiceS gs n i = T := ⟨_, rfl⟩
    obtain ⟨⟨M1, M2, M3⟩, hMM⟩ : ∃ T, harmT gs n i j 1 = T := ⟨_, rfl⟩
    have KS := Lib.hid (fun W v (h : SwG W (.slice A0 gs.length c0) gs) (hv : SwG W v [g]) => Send_any _ n gs v [g] W h hv HL.out hn1)
    have KT := Lib.hid (fun W (h : SwG W (.slice A0 gs.length c0) gs) => Take_any _ n gs i W h HL.out hn1)
    have KD := Lib.hid (fun W (h : SwG W (.slice A0 gs.length c0) gs) => Drop_any _ n gs i W h HL.out hn1)
    have KU := Lib.hid (fun W (h : SwG W (.slice A0 gs.length c0) gs) => Twice_any _ n gs i W h HL.out hn1)
    have KM := Lib.hid (fun W (h : SwG W (.slice A0 gs.length c0) gs) => Harm_any _ n gs i j 1 W h HL.out hn1)
    rw [hSS] at KS
    rw [hT] at KT
    rw [hD] at KD
    rw [hUU] at KU
    rw [hMM] at KM
    dsimp only at KS KT KD KU KM
    clear hSS hT hD hUU hMM
    have hone : SwG (wc.alloc (.cells (g.c (.slice Au g.bytes.length cu)) 29)) (.slice (some ⟨wc.heap.size, 0, none⟩) 1 1) [g] := swG_lit [(g, .slice Au g.bytes.length cu)] wc (by
      intro x hx
      simp at hx
      subst hx
      exact HU.out.below (H0.baseAt 0 rfl)) (by simp) (by simp)
    have HONE := Lib.hid hone
    clear hone
    go_wp2_with (first
      | (with_reducible show wpList _ _ _ (Oper.mk _ (Op.load 24 (.tmp 4)) _ _ _ _ :: _) _ _
         refine wpList_loadW (H0.rowAt 1 rfl) aggB rfl _ rfl rfl ?_)
      | (with_reducible show wpList _ _ _ (Oper.mk _ (Op.load 29 (.tmp 5)) _ _ _ _ :: _) _ _
         refine wpList_loadW (H0.rowAt 2 rfl) aggG rfl _ rfl rfl ?_)
      | (with_reducible show wpList _ _ _ (Oper.mk _ (Op.buildSlice _ _ _) _ _ _ _ :: _) _ _
         refine wpList_buildS rfl [(0, .tmp 53)] rfl rfl (run_one g (.slice Au g.bytes.length cu) _) ?_))
    replace H0 := H0.alloc (.cells (g.c (.slice Au g.bytes.length cu)) 29)
    have hsz5 : (wc.alloc (.cells (g.c (.slice Au g.bytes.length cu)) 29)).heap.size = wc.heap.size + 1 := by simp
    refine (KS.out _ _ (HS.out.below (H0.baseAt 0 rfl)) HONE.out).mono ?_; rintro e w5 ⟨E1, p1, k1, rfl, hm⟩
    have hw5 := hm.below.size
    rw [hsz5] at hw5
    replace H0 := (((H0.call hm.below).snoc (.own (fun k => wc.heap.size < k ∧ k < w5.heap.size) 29 _ _) (hm.ownP.imp fun k h1 h2 => ⟨by rw [hsz5] at h2; exact h2, h1⟩)).alloc (.cells (bagC nilB 0) 24)).snoc (.row w5.heap.size _ _) (Rw.new w5 (bagC nilB 0) 24)
    simp only [List.nil_append, List.cons_append] at H0
    clear hm KS HONE hsz5
    go_wp2_with (first
      | (with_reducible show wpList _ _ _ (Oper.mk _ (Op.load 24 (.tmp 4)) _ _ _ _ :: _) _ _
         refine wpList_loadW (H0.rowAt 1 rfl) aggB rfl _ rfl rfl ?_)
      | (with_reducible show wpList _ _ _ (Oper.mk _ (Op.store 24 (.tmp 11) _) _ _ _ _ :: _) _ _
         refine wpList_storeR (c := bagC (.slice E1 p1 k1) S2) rfl _ _ rfl rfl rfl aggB.hi (H0.rowAt 8 rfl) rfl (bag_one _ _ _ _) ?_
         replace H0 := H0.setRow 8 rfl (bagC (.slice E1 p1 k1) S2) (by simp [aparts, F.row_fp, F.base_fp, F.own_fp, F.bytes_fp, -Nat.not_le, -Nat.not_lt] <;> omega)
         simp only [List.set_cons_zero, List.set_cons_succ] at H0
         refine Fs.gen H0 ?_
         clear H0
         rintro X5 H0))
    have hx5 := (H0.rowAt 8 rfl).lt
    refine (KT.out _ (HS.out.below (H0.baseAt 0 rfl))).mono ?_; rintro e w6 ⟨E2, p2, k2, u', rfl, hm, hu'⟩
    obtain ⟨Ay, cy, rfl⟩ := (Sl.of_own hu').form
    rw [bv_length] at hu' ⊢
    have hw6 := hm.below.size
    replace H0 := ((H0.call hm.below).snoc (.own (fun k => X5.heap.size ≤ k ∧ k < w6.heap.size) 29 _ _) (hm.ownP.imp fun k h1 h2 => ⟨h2, h1⟩)).snoc (.bytes (fun k => X5.heap.size ≤ k ∧ k < w6.heap.size) _ _) ⟨owns_mono hu' (Nat.zero_le _), fun k hk => hu'.lt k hk⟩
    obtain ⟨z1, z2, -⟩ := two_boxes w6 (bagC nilB 0) (noG.c nilB) 24 29
    replace H0 := (((H0.alloc _).alloc _).snoc (.row w6.heap.size _ _) z1).snoc (.row (w6.heap.size + 1) _ _) z2
    simp only [List.nil_append, List.cons_append] at H0
    clear z1 z2 hm hu' KT
    go_wp2_with (first
      | (with_reducible show wpList _ _ _ (Oper.mk _ (Op.load 24 (.tmp 4)) _ _ _ _ :: _) _ _
         refine wpList_loadW (H0.rowAt 1 rfl) aggB rfl _ rfl rfl ?_)
      | (with_reducible show wpList _ _ _ (Oper.mk _ (Op.store 24 (.tmp 12) _) _ _ _ _ :: _) _ _
         refine wpList_storeR (c := bagC (.slice E2 p2 k2) n) rfl _ _ rfl rfl rfl aggB.hi (H0.rowAt 11 rfl) rfl (bag_one _ _ _ _) ?_
         replace H0 := H0.setRow 11 rfl (bagC (.slice E2 p2 k2) n) (by simp [aparts, F.row_fp, F.base_fp, F.own_fp, F.bytes_fp, -Nat.not_le, -Nat.not_lt] <;> omega)
         simp only [List.set_cons_zero, List.set_cons_succ] at H0)
      | (with_reducible show wpList _ _ _ (Oper.mk _ (Op.store 29 (.tmp 13) _) _ _ _ _ :: _) _ _
         refine wpList_storeR (c := Tg.c (.slice Ay Tg.bytes.length cy)) rfl _ _ rfl rfl rfl aggG.hi (H0.rowAt 12 rfl) rfl (Gr.one _ _ _ _) ?_
         replace H0 := H0.setRow 12 rfl (Tg.c (.slice Ay Tg.bytes.length cy)) (by simp [aparts, F.row_fp, F.base_fp, F.own_fp, F.bytes_fp, -Nat.not_le, -Nat.not_lt] <;> omega)
         simp only [List.set_cons_zero, List.set_cons_succ] at H0
         refine Fs.gen H0 ?_
         clear H0
         rintro X6 H0))
    have hx6 := (H0.rowAt 12 rfl).lt
    refine (KD.out _ (HS.out.below (H0.baseAt 0 rfl))).mono ?_; rintro e w7 ⟨E3, p3, k3, rfl, hm⟩
    have hw7 := hm.below.size
    replace H0 := (((H0.call hm.below).snoc (.own (fun k => X6.heap.size ≤ k ∧ k < w7.heap.size) 29 _ _) (hm.ownP.imp fun k h1 h2 => ⟨h2, h1⟩)).alloc (.cells (bagC nilB 0) 24)).snoc (.row w7.heap.size _ _) (Rw.new w7 (bagC nilB 0) 24)
    simp only [List.nil_append, List.cons_append] at H0
    clear hm KD
    go_wp2_with (first
      | (with_reducible show wpList _ _ _ (Oper.mk _ (Op.load 24 (.tmp 4)) _ _ _ _ :: _) _ _
         refine wpList_loadW (H0.rowAt 1 rfl) aggB rfl _ rfl rfl ?_)
      | (with_reducible show wpList _ _ _ (Oper.mk _ (Op.store 24 (.tmp 15) _) _ _ _ _ :: _) _ _
         refine wpList_storeR (c := bagC (.slice E3 p3 k3) D2) rfl _ _ rfl rfl rfl aggB.hi (H0.rowAt 14 rfl) rfl (bag_one _ _ _ _) ?_
         replace H0 := H0.setRow 14 rfl (bagC (.slice E3 p3 k3) D2) (by simp [aparts, F.row_fp, F.base_fp, F.own_fp, F.bytes_fp, -Nat.not_le, -Nat.not_lt] <;> omega)
         simp only [List.set_cons_zero, List.set_cons_succ] at H0
         refine Fs.gen H0 ?_
         clear H0
         rintro X7 H0))
    have hx7 := (H0.rowAt 14 rfl).lt
    refine (KU.out _ (HS.out.below (H0.baseAt 0 rfl))).mono ?_; rintro e w8 ⟨E4, p4, k4, rfl, hm⟩
    have hw8 := hm.below.size
    replace H0 := (((H0.call hm.below).snoc (.own (fun k => X7.heap.size ≤ k ∧ k < w8.heap.size) 29 _ _) (hm.ownP.imp fun k h1 h2 => ⟨h2, h1⟩)).alloc (.cells (bagC nilB 0) 24)).snoc (.row w8.heap.size _ _) (Rw.new w8 (bagC nilB 0) 24)
    simp only [List.nil_append, List.cons_append] at H0
    clear hm KU
    go_wp2_with (first
      | (with_reducible show wpList _ _ _ (Oper.mk _ (Op.load 24 (.tmp 4)) _ _ _ _ :: _) _ _
         refine wpList_loadW (H0.rowAt 1 rfl) aggB rfl _ rfl rfl ?_)
      | (with_reducible show wpList _ _ _ (Oper.mk _ (Op.store 24 (.tmp 17) _) _ _ _ _ :: _) _ _
         refine wpList_storeR (c := bagC (.slice E4 p4 k4) U2) rfl _ _ rfl rfl rfl aggB.hi (H0.rowAt 16 rfl) rfl (bag_one _ _ _ _) ?_
         replace H0 := H0.setRow 16 rfl (bagC (.slice E4 p4 k4) U2) (by simp [aparts, F.row_fp, F.base_fp, F.own_fp, F.bytes_fp, -Nat.not_le, -Nat.not_lt] <;> omega)
         simp only [List.set_cons_zero, List.set_cons_succ] at H0
         refine Fs.gen H0 ?_
         clear H0
         rintro X8 H0))
    have hx8 := (H0.rowAt 16 rfl).lt
    refine (KM.out _ (HS.out.below (H0.baseAt 0 rfl))).mono ?_; rintro e w9 ⟨E5, p5, k5, rfl, hm⟩
    have hw9 := hm.below.size
    replace H0 := (((H0.call hm.below).snoc (.own (fun k => X8.heap.size ≤ k ∧ k < w9.heap.size) 29 _ _) (hm.ownP.imp fun k h1 h2 => ⟨h2, h1⟩)).alloc (.cells (bagC nilB 0) 24)).snoc (.row w9.heap.size _ _) (Rw.new w9 (bagC nilB 0) 24)
    simp only [List.nil_append, List.cons_append] at H0
    clear hm KM
    go_wp2_with (first
      | (with_reducible show wpList _ _ _ (Oper.mk _ (Op.store 24 (.tmp 19) _) _ _ _ _ :: _) _ _
         refine wpList_storeR (c := bagC (.slice E5 p5 k5) M2) rfl _ _ rfl rfl rfl aggB.hi (H0.rowAt 18 rfl) rfl (bag_one _ _ _ _) ?_
         replace H0 := H0.setRow 18 rfl (bagC (.slice E5 p5 k5) M2) (by simp [aparts, F.row_fp, F.base_fp, F.own_fp, F.bytes_fp, -Nat.not_le, -Nat.not_lt] <;> omega)
         simp only [List.set_cons_zero, List.set_cons_succ] at H0
         refine Fs.gen H0 ?_
         clear H0
         rintro X9 H0))
    have hx9 := (H0.rowAt 18 rfl).lt
    try simp only [Act.put]
    have KO := Lib.hid (fun X (h : Below X9.heap.size X9 X) => Own_any _ n gs X (HS.out.below ((H0.call h).baseAt 0 rfl)) HL.out hn1)
    have HQ := Lib.hid (show ∀ X, Below X9.heap.size X9 X → Below X9.heap.size X9 X ∧ X.cell? ⟨w5.heap.size, 0, none⟩ = some (.slice E1 p1 k1) ∧ X.cell? ⟨w5.heap.size, 1, none⟩ = some (.int .i64 S2) ∧ X.cell? ⟨w6.heap.size, 0, none⟩ = some (.slice E2 p2 k2) ∧ X.cell? ⟨w6.heap.size, 1, none⟩ = some (.int .i64 n) ∧ X.cell? ⟨w7.heap.size, 0, none⟩ = some (.slice E3 p3 k3) ∧ X.cell? ⟨w7.heap.size, 1, none⟩ = some (.int .i64 D2) ∧ X.cell? ⟨w8.heap.size, 0, none⟩ = some (.slice E4 p4 k4) ∧ X.cell? ⟨w8.heap.size, 1, none⟩ = some (.int .i64 U2) ∧ X.cell? ⟨w9.heap.size, 0, none⟩ = some (.slice E5 p5 k5) ∧ X.cell? ⟨w9.heap.size, 1, none⟩ = some (.int .i64 M2) ∧ X.cell? ⟨w.heap.size, 0, none⟩ = some (.slice A0 gs.length c0) ∧ X.cell? ⟨w.heap.size, 1, none⟩ = some (.int .i64 n) from fun X h => ⟨h, ((H0.call h).rowAt 8 rfl).cell 0, ((H0.call h).rowAt 8 rfl).cell 1, ((H0.call h).rowAt 11 rfl).cell 0, ((H0.call h).rowAt 11 rfl).cell 1, ((H0.call h).rowAt 14 rfl).cell 0, ((H0.call h).rowAt 14 rfl).cell 1, ((H0.call h).rowAt 16 rfl).cell 0, ((H0.call h).rowAt 16 rfl).cell 1, ((H0.call h).rowAt 18 rfl).cell 0, ((H0.call h).rowAt 18 rfl).cell 1, ((H0.call h).rowAt 1 rfl).cell 0, ((H0.call h).rowAt 1 rfl).cell 1⟩)
    refine wp_region_held_drew (S := (fun X => Below X9.heap.size X9 X ∧ X.cell? ⟨w5.heap.size, 0, none⟩ = some (.slice E1 p1 k1) ∧ X.cell? ⟨w5.heap.size, 1, none⟩ = some (.int .i64 S2) ∧ X.cell? ⟨w6.heap.size, 0, none⟩ = some (.slice E2 p2 k2) ∧ X.cell? ⟨w6.heap.size, 1, none⟩ = some (.int .i64 n) ∧ X.cell? ⟨w7.heap.size, 0, none⟩ = some (.slice E3 p3 k3) ∧ X.cell? ⟨w7.heap.size, 1, none⟩ = some (.int .i64 D2) ∧ X.cell? ⟨w8.heap.size, 0, none⟩ = some (.slice E4 p4 k4) ∧ X.cell? ⟨w8.heap.size, 1, none⟩ = some (.int .i64 U2) ∧ X.cell? ⟨w9.heap.size, 0, none⟩ = some (.slice E5 p5 k5) ∧ X.cell? ⟨w9.heap.size, 1, none⟩ = some (.int .i64 M2) ∧ X.cell? ⟨w.heap.size, 0, none⟩ = some (.slice A0 gs.length c0) ∧ X.cell? ⟨w.heap.size, 1, none⟩ = some (.int .i64 n))) (by kernel_rfl) (by first | exact HQ.out _ (Below.refl _ _).drew | assumption | exact HQ.out _ (by assumption)) (fun hHeld => ?_)
    refine wpAnyH_take (i := 0) (oi := { dst := some 82, op := .load 24 (.tmp 11), type := _, pos := _, after := _, guard := none }) (v := ?_) rfl (by kernel_rfl) (by kernel_rfl) (by kernel_rfl) (fun _ _ _ h => h) (Or.inl ⟨by rfl, ?_⟩) (by assumption) ?_
    rotate_left
    · (intro w hSw; (try dsimp only at hSw); go_simp; try (with_reducible rfl))
    try simp only [Act.put, List.setIfInBounds_toArray, List.set_cons_zero, List.set_cons_succ]
    refine wpAnyH_take (i := 1) (oi := { dst := some 83, op := .load 24 (.tmp 12), type := _, pos := _, after := _, guard := none }) (v := ?_) rfl (by kernel_rfl) (by kernel_rfl) (by kernel_rfl) (fun _ _ _ h => h) (Or.inl ⟨by rfl, ?_⟩) (by assumption) ?_
    rotate_left
    · (intro w hSw; (try dsimp only at hSw); go_simp; try (with_reducible rfl))
    try simp only [Act.put, List.setIfInBounds_toArray, List.set_cons_zero, List.set_cons_succ]
    refine wpAnyH_take (i := 2) (oi := { dst := some 84, op := .load 24 (.tmp 15), type := _, pos := _, after := _, guard := none }) (v := ?_) rfl (by kernel_rfl) (by kernel_rfl) (by kernel_rfl) (fun _ _ _ h => h) (Or.inl ⟨by rfl, ?_⟩) (by assumption) ?_
    rotate_left
    · (intro w hSw; (try dsimp only at hSw); go_simp; try (with_reducible rfl))
    try simp only [Act.put, List.setIfInBounds_toArray, List.set_cons_zero, List.set_cons_succ]
    refine wpAnyH_take (i := 3) (oi := { dst := some 85, op := .load 24 (.tmp 17), type := _, pos := _, after := _, guard := none }) (v := ?_) rfl (by kernel_rfl) (by kernel_rfl) (by kernel_rfl) (fun _ _ _ h => h) (Or.inl ⟨by rfl, ?_⟩) (by assumption) ?_
    rotate_left
    · (intro w hSw; (try dsimp only at hSw); go_simp; try (with_reducible rfl))
    try simp only [Act.put, List.setIfInBounds_toArray, List.set_cons_zero, List.set_cons_succ]
    refine wpAnyH_take (i := 4) (oi := { dst := some 86, op := .load 24 (.tmp 19), type := _, pos := _, after := _, guard := none }) (v := ?_) rfl (by kernel_rfl) (by kernel_rfl) (by kernel_rfl) (fun _ _ _ h => h) (Or.inl ⟨by rfl, ?_⟩) (by assumption) ?_
    rotate_left
    · (intro w hSw; (try dsimp only at hSw); go_simp; try (with_reducible rfl))
    try simp only [Act.put, List.setIfInBounds_toArray, List.set_cons_zero, List.set_cons_succ]
    refine wpAnyH_take (i := 5) (oi := { dst := some 87, op := .load 24 (.tmp 4), type := _, pos := _, after := _, guard := none }) (v := ?_) rfl (by kernel_rfl) (by kernel_rfl) (by kernel_rfl) (fun _ _ _ h => h) (Or.inl ⟨by rfl, ?_⟩) (by assumption) ?_
    rotate_left
    · (intro w hSw; (try dsimp only at hSw); go_simp; try (with_reducible rfl))
    try simp only [Act.put, List.setIfInBounds_toArray, List.set_cons_zero, List.set_cons_succ]
    refine wpAnyH_take (i := 9) (oi := { dst := some 91, op := .move (.const (.int .i64 0)), type := _, pos := _, after := _, guard := none }) (v := ?_) rfl (by kernel_rfl) (by kernel_rfl) (by kernel_rfl) (fun _ _ _ h => h) (Or.inl ⟨by rfl, ?_⟩) (by assumption) ?_
    rotate_left
    · (intro w hSw; (try dsimp only at hSw); go_simp; try (with_reducible rfl))
    try simp only [Act.put, List.setIfInBounds_toArray, List.set_cons_zero, List.set_cons_succ]
    refine wpAnyH_ready (rs := [6]) (by kernel_rfl) (by simp) ?_
    refine AllReadyH.cons (o := { dst := some 88, op := .call { callee := .value (.func 25), args := #[.tmp 87], argTypes := #[24] }, type := _, pos := _, after := _, guard := none }) rfl (fun K hK => ?_) AllReadyH.nil
    go_simp
    refine (KO.out _ (Below.refl _ _).drew).mono ?_; rintro e y1 ⟨E6, p6, k6, rfl, hm6⟩; have hy1 : Below X9.heap.size X9 y1 := (Below.refl X9.heap.size X9).drew.trans hm6.below
    refine hK.out _ _ (by first | exact HQ.out _ (Below.refl _ _).drew | assumption | exact HQ.out _ (by assumption)) (fun hHeld => ?_)
    clear hK K
    try simp only [Act.put, List.setIfInBounds_toArray, List.set_cons_zero, List.set_cons_succ]
    refine wpAnyH_ready (rs := [7]) (by kernel_rfl) (by simp) ?_
    refine AllReadyH.cons (o := { dst := some 89, op := .buildSlice 50 6 #[(0, .tmp 82), (1, .tmp 83), (2, .tmp 84), (3, .tmp 85), (4, .tmp 86), (5, .tmp 88)], type := _, pos := _, after := _, guard := none }) rfl (fun K hK => ?_) AllReadyH.nil
    refine step_buildS rfl [(0, .tmp 82), (1, .tmp 83), (2, .tmp 84), (3, .tmp 85), (4, .tmp 86), (5, .tmp 88)] rfl rfl (run_six (.slice E1 p1 k1) (.slice E2 p2 k2) (.slice E3 p3 k3) (.slice E4 p4 k4) (.slice E5 p5 k5) (.slice E6 p6 k6) S2 n D2 U2 M2 n _) ?_
    have hy2 := hy1.alloc hy1.size (.cells (bagsC [(.slice E1 p1 k1, S2), (.slice E2 p2 k2, n), (.slice E3 p3 k3, D2), (.slice E4 p4 k4, U2), (.slice E5 p5 k5, M2), (.slice E6 p6 k6, n)]) 24)
    refine hK.out _ _ (by first | exact HQ.out _ (Below.refl _ _).drew | assumption | exact HQ.out _ (by assumption)) (fun hHeld => ?_)
    clear hK K
    try simp only [Act.put, List.setIfInBounds_toArray, List.set_cons_zero, List.set_cons_succ]
    refine wpAnyH_take (i := 8) (oi := { dst := some 90, op := .call { callee := .builtin .len, args := #[.tmp 89], argTypes := #[50] }, type := _, pos := _, after := _, guard := none }) (v := ?_) rfl (by kernel_rfl) (by kernel_rfl) (by kernel_rfl) (fun _ _ _ h => h) (Or.inl ⟨by rfl, ?_⟩) (by assumption) ?_
    rotate_left
    · (intro w hSw; (try dsimp only at hSw); go_simp; try (with_reducible rfl))
    try simp only [Act.put, List.setIfInBounds_toArray, List.set_cons_zero, List.set_cons_succ]
    refine wpAnyH_done (by kernel_rfl) ?_ _

    have hwy := hy1.size
    replace H0 := (((H0.call hy1).snoc (.own (fun k => X9.heap.size ≤ k ∧ k < y1.heap.size) 29 (.slice E6 p6 k6) gs) (hm6.ownP.imp fun k h1 h2 => ⟨h2, h1⟩)).alloc (.cells (bagsC [(.slice E1 p1 k1, S2), (.slice E2 p2 k2, n), (.slice E3 p3 k3, D2), (.slice E4 p4 k4, U2), (.slice E5 p5 k5, M2), (.slice E6 p6 k6, n)]) 24)).snoc (.row y1.heap.size _ _) (Rw.new y1 (bagsC [(.slice E1 p1 k1, S2), (.slice E2 p2 k2, n), (.slice E3 p3 k3, D2), (.slice E4 p4 k4, U2), (.slice E5 p5 k5, M2), (.slice E6 p6 k6, n)]) 24)
    simp only [List.nil_append, List.cons_append] at H0
    clear hm6 hy1 hy2 HQ KO hHeld
    obtain ⟨R, hR⟩ : ∃ R : List (Nat × Nat × Value), R = [(wc.heap.size + 1, w5.heap.size, .slice E1 p1 k1), (X5.heap.size, w6.heap.size, .slice E2 p2 k2), (X6.heap.size, w7.heap.size, .slice E3 p3 k3), (X7.heap.size, w8.heap.size, .slice E4 p4 k4), (X8.heap.size, w9.heap.size, .slice E5 p5 k5), (X9.heap.size, y1.heap.size, .slice E6 p6 k6)] := ⟨_, rfl⟩
    have hAP : Apart R := by
      rw [hR]
      simp [Apart]
      omega
    have hRl : R.length = 6 := by rw [hR]; rfl
    have hap : ∀ (i : Nat) (hi : i < R.length) (b : Nat), R[i].1 ≤ b → b < R[i].2.1 → b < y1.heap.size ∧ ∀ BL : List (Value × Int), aparts b [.base w, .row w.heap.size 24 (bagC (.slice A0 gs.length c0) n), .row (w.heap.size + 1) 29 (g.c (.slice Au g.bytes.length cu)), .own (fun k => w1.heap.size ≤ k ∧ k < w2.heap.size) 29 (.slice A9 q9 k9) gs, .row w2.heap.size 24 (bagC (.slice A9 q9 k9) n), .bytes (fun k => X3.heap.size ≤ k ∧ k ≠ b10 ∧ k < wc.heap.size) (.slice A1 g.bytes.length c1) g.bytes, .row b10 29 (g.c (.slice A1 g.bytes.length c1)), .row (w6.heap.size + 1) 29 (Tg.c (.slice Ay Tg.bytes.length cy)), .row y1.heap.size 24 (bagsC BL)] := by
      intro i hi b h1 h2
      subst hR
      match i, hi, h1, h2 with
      | 0, _, h1, h2 => have g1 : wc.heap.size + 1 ≤ b := h1; have g2 : b < w5.heap.size := h2; refine ⟨by omega, fun BL => ?_⟩; simp [aparts, F.row_fp, F.base_fp, F.own_fp, F.bytes_fp, -Nat.not_le, -Nat.not_lt] <;> omega
      | 1, _, h1, h2 => have g1 : X5.heap.size ≤ b := h1; have g2 : b < w6.heap.size := h2; refine ⟨by omega, fun BL => ?_⟩; simp [aparts, F.row_fp, F.base_fp, F.own_fp, F.bytes_fp, -Nat.not_le, -Nat.not_lt] <;> omega
      | 2, _, h1, h2 => have g1 : X6.heap.size ≤ b := h1; have g2 : b < w7.heap.size := h2; refine ⟨by omega, fun BL => ?_⟩; simp [aparts, F.row_fp, F.base_fp, F.own_fp, F.bytes_fp, -Nat.not_le, -Nat.not_lt] <;> omega
      | 3, _, h1, h2 => have g1 : X7.heap.size ≤ b := h1; have g2 : b < w8.heap.size := h2; refine ⟨by omega, fun BL => ?_⟩; simp [aparts, F.row_fp, F.base_fp, F.own_fp, F.bytes_fp, -Nat.not_le, -Nat.not_lt] <;> omega
      | 4, _, h1, h2 => have g1 : X8.heap.size ≤ b := h1; have g2 : b < w9.heap.size := h2; refine ⟨by omega, fun BL => ?_⟩; simp [aparts, F.row_fp, F.base_fp, F.own_fp, F.bytes_fp, -Nat.not_le, -Nat.not_lt] <;> omega
      | 5, _, h1, h2 => have g1 : X9.heap.size ≤ b := h1; have g2 : b < y1.heap.size := h2; refine ⟨by omega, fun BL => ?_⟩; simp [aparts, F.row_fp, F.base_fp, F.own_fp, F.bytes_fp, -Nat.not_le, -Nat.not_lt] <;> omega
      | i + 6, hi, _, _ => simp at hi; omega
    have hBV : ∀ (BL : List (Value × Int)), BL = [(Value.slice E1 p1 k1, S2), (Value.slice E2 p2 k2, n), (Value.slice E3 p3 k3, D2), (Value.slice E4 p4 k4, U2), (Value.slice E5 p5 k5, M2), (Value.slice E6 p6 k6, n)] → ∀ (i : Nat) (hi : i < BL.length) (hi2 : i < R.length), BL[i].1 = R[i].2.2 := by
      rintro _ rfl i hi hi2
      subst hR
      match i, hi with
      | 0, _ => rfl
      | 1, _ => rfl
      | 2, _ => rfl
      | 3, _ => rfl
      | 4, _ => rfl
      | 5, _ => rfl
      | i + 6, hi => simp at hi; omega
    have hJK : ∀ W, Fs [.base w, .row w.heap.size 24 (bagC (.slice A0 gs.length c0) n), .row (w.heap.size + 1) 29 (g.c (.slice Au g.bytes.length cu)), .own (fun k => w1.heap.size ≤ k ∧ k < w2.heap.size) 29 (.slice A9 q9 k9) gs, .row w2.heap.size 24 (bagC (.slice A9 q9 k9) n), .bytes (fun k => X3.heap.size ≤ k ∧ k ≠ b10 ∧ k < wc.heap.size) (.slice A1 g.bytes.length c1) g.bytes, .row b10 29 (g.c (.slice A1 g.bytes.length c1)), .own (fun k => wc.heap.size + 1 ≤ k ∧ k < w5.heap.size) 29 (.slice E1 p1 k1) S1, .row w5.heap.size 24 (bagC (.slice E1 p1 k1) S2), .own (fun k => X5.heap.size ≤ k ∧ k < w6.heap.size) 29 (.slice E2 p2 k2) T1, .bytes (fun k => X5.heap.size ≤ k ∧ k < w6.heap.size) (.slice Ay Tg.bytes.length cy) Tg.bytes, .row w6.heap.size 24 (bagC (.slice E2 p2 k2) n), .row (w6.heap.size + 1) 29 (Tg.c (.slice Ay Tg.bytes.length cy)), .own (fun k => X6.heap.size ≤ k ∧ k < w7.heap.size) 29 (.slice E3 p3 k3) D1, .row w7.heap.size 24 (bagC (.slice E3 p3 k3) D2), .own (fun k => X7.heap.size ≤ k ∧ k < w8.heap.size) 29 (.slice E4 p4 k4) U1, .row w8.heap.size 24 (bagC (.slice E4 p4 k4) U2), .own (fun k => X8.heap.size ≤ k ∧ k < w9.heap.size) 29 (.slice E5 p5 k5) M1, .row w9.heap.size 24 (bagC (.slice E5 p5 k5) M2), .own (fun k => X9.heap.size ≤ k ∧ k < y1.heap.size) 29 (.slice E6 p6 k6) gs, .row y1.heap.size 24 (bagsC [(.slice E1 p1 k1, S2), (.slice E2 p2 k2, n), (.slice E3 p3 k3, D2), (.slice E4 p4 k4, U2), (.slice E5 p5 k5, M2), (.slice E6 p6 k6, n)])] W → (F.jk 29 R 6).ok W := by
      intro W h i hi hne
      subst hR
      match i, hi with
      | 0, _ => exact ⟨_, h.ownAt 7 rfl⟩
      | 1, _ => exact ⟨_, h.ownAt 9 rfl⟩
      | 2, _ => exact ⟨_, h.ownAt 13 rfl⟩
      | 3, _ => exact ⟨_, h.ownAt 15 rfl⟩
      | 4, _ => exact ⟨_, h.ownAt 17 rfl⟩
      | 5, _ => exact ⟨_, h.ownAt 19 rfl⟩
      | i + 6, hi => simp at hi; omega
    have hbyt : ∀ k, (Value.slice Ay Tg.bytes.length cy).ownBlock = some k → X5.heap.size ≤ k ∧ k < w6.heap.size := (H0.get 10 rfl : _ ∧ _).2
    have hsb := H0.bytesAt 10 rfl
    have hjk := hJK _ H0
    refine gen_exit (fun X => Fs [.base w, .row w.heap.size 24 (bagC (.slice A0 gs.length c0) n), .row (w.heap.size + 1) 29 (g.c (.slice Au g.bytes.length cu)), .own (fun k => w1.heap.size ≤ k ∧ k < w2.heap.size) 29 (.slice A9 q9 k9) gs, .row w2.heap.size 24 (bagC (.slice A9 q9 k9) n), .bytes (fun k => X3.heap.size ≤ k ∧ k ≠ b10 ∧ k < wc.heap.size) (.slice A1 g.bytes.length c1) g.bytes, .row b10 29 (g.c (.slice A1 g.bytes.length c1)), .row (w6.heap.size + 1) 29 (Tg.c (.slice Ay Tg.bytes.length cy)), .row y1.heap.size 24 (bagsC [(.slice E1 p1 k1, S2), (.slice E2 p2 k2, n), (.slice E3 p3 k3, D2), (.slice E4 p4 k4, U2), (.slice E5 p5 k5, M2), (.slice E6 p6 k6, n)]), .jk 29 R 6] X ∧ Sb X X5.heap.size (.slice Ay Tg.bytes.length cy) Tg.bytes.length ∧ y1.heap.size < X.heap.size)
      ⟨(H0.sub (m := [.base w, .row w.heap.size 24 (bagC (.slice A0 gs.length c0) n), .row (w.heap.size + 1) 29 (g.c (.slice Au g.bytes.length cu)), .own (fun k => w1.heap.size ≤ k ∧ k < w2.heap.size) 29 (.slice A9 q9 k9) gs, .row w2.heap.size 24 (bagC (.slice A9 q9 k9) n), .bytes (fun k => X3.heap.size ≤ k ∧ k ≠ b10 ∧ k < wc.heap.size) (.slice A1 g.bytes.length c1) g.bytes, .row b10 29 (g.c (.slice A1 g.bytes.length c1)), .row (w6.heap.size + 1) 29 (Tg.c (.slice Ay Tg.bytes.length cy)), .row y1.heap.size 24 (bagsC [(.slice E1 p1 k1, S2), (.slice E2 p2 k2, n), (.slice E3 p3 k3, D2), (.slice E4 p4 k4, U2), (.slice E5 p5 k5, M2), (.slice E6 p6 k6, n)])]) (by simp)).snoc (.jk 29 R 6) hjk, ⟨_, rfl, owns_from hsb fun k e => (hbyt k e).1⟩, by simp⟩ ?_
    clear H0 hsb hjk hJK
    rintro X10 ⟨H0, HSB, hX10'⟩
    obtain ⟨BL, hBL⟩ : ∃ BL, BL = ([(Value.slice E1 p1 k1, S2), (Value.slice E2 p2 k2, n), (Value.slice E3 p3 k3, D2), (Value.slice E4 p4 k4, U2), (Value.slice E5 p5 k5, M2), (Value.slice E6 p6 k6, n)] : List (Value × Int)) := ⟨_, rfl⟩
    have hBl : BL.length = 6 := by rw [hBL]; rfl
    have HBV := Lib.hid (hBV BL hBL)
    rw [← hBL] at H0
    have HAP := Lib.hid hap
    have HAPT := Lib.hid hAP
    have HRL := Lib.hid hRl
    have HBLL := Lib.hid hBl
    have HBYT := Lib.hid hbyt
    clear hBV hap hAP hRl hBl hbyt hR hBL
    go_wp2_with fail
    go_loopw [91] (fun t W => ∃ m : Nat, m ≤ 6 ∧ t = .int .i64 (m : Int) ∧ Fs [.base w, .row w.heap.size 24 (bagC (.slice A0 gs.length c0) n), .row (w.heap.size + 1) 29 (g.c (.slice Au g.bytes.length cu)), .own (fun k => w1.heap.size ≤ k ∧ k < w2.heap.size) 29 (.slice A9 q9 k9) gs, .row w2.heap.size 24 (bagC (.slice A9 q9 k9) n), .bytes (fun k => X3.heap.size ≤ k ∧ k ≠ b10 ∧ k < wc.heap.size) (.slice A1 g.bytes.length c1) g.bytes, .row b10 29 (g.c (.slice A1 g.bytes.length c1)), .row (w6.heap.size + 1) 29 (Tg.c (.slice Ay Tg.bytes.length cy)), .row y1.heap.size 24 (bagsC BL), .jk 29 R 6] W ∧ Sb W X5.heap.size (.slice Ay Tg.bytes.length cy) Tg.bytes.length ∧ y1.heap.size < W.heap.size) (fun t _ => 6 - (intOf t).toNat)
    case atStart => exact ⟨0, by omega, rfl, H0, HSB, hX10'⟩
    case round =>
      clear H0 HSB hX10'
      obtain ⟨m, hm, rfl, H0, HSB, hyl⟩ := hrel
      by_cases hm6 : m < 6
      · have hmR : m < R.length := by rw [HRL.out]; exact hm6
        have hmB : m < BL.length := by rw [HBLL.out]; exact hm6
        obtain ⟨gsm, hOm⟩ := H0.jkAt 9 rfl m hmR (by omega)
        obtain ⟨ps0, hps0, hQ0⟩ := hOm.ownQ
        obtain ⟨A, c, hv⟩ := hOm.swG.form
        obtain ⟨q, hq⟩ : ∃ q, gsm.length = q := ⟨_, rfl⟩
        have hpl0 : ps0.length = q := by rw [← hq, ← hps0, List.length_map]
        rw [hq] at hv
        rw [hv] at hQ0
        obtain ⟨nm, hnm⟩ : ∃ nm, BL[m].2 = nm := ⟨_, rfl⟩
        have hb := bags_get BL m hmB
        rw [HBV.out m hmB hmR, hv, hnm] at hb
        have LB := Lib.hid (run_loadB (P := Try.prog) aggB (((H0.rowAt 8 rfl).cell (m * 2)).trans hb.1) (((H0.rowAt 8 rfl).cell (m * 2 + 1)).trans hb.2))
        have im0 : (0 : Int) ≤ (m : Int) := by omega
        have im6 : (m : Int) < 6 := by omega
        have HV := Lib.hid hv
        have HX0 := (((H0.alloc (.cells (bagC nilB 0) 24)).sub (m := [.base w, .row w.heap.size 24 (bagC (.slice A0 gs.length c0) n), .row (w.heap.size + 1) 29 (g.c (.slice Au g.bytes.length cu)), .own (fun k => w1.heap.size ≤ k ∧ k < w2.heap.size) 29 (.slice A9 q9 k9) gs, .row w2.heap.size 24 (bagC (.slice A9 q9 k9) n), .bytes (fun k => X3.heap.size ≤ k ∧ k ≠ b10 ∧ k < wc.heap.size) (.slice A1 g.bytes.length c1) g.bytes, .row b10 29 (g.c (.slice A1 g.bytes.length c1)), .row (w6.heap.size + 1) 29 (Tg.c (.slice Ay Tg.bytes.length cy)), .row y1.heap.size 24 (bagsC BL)]) (by simp)).snoc (.jk 29 R m) (fun k hk hne => by
          obtain ⟨x, hx⟩ := (H0.alloc (.cells (bagC nilB 0) 24)).jkAt 9 rfl k hk (by rw [HRL.out] at hk; omega)
          exact ⟨x, hx⟩)).snoc (.row wr.heap.size _ _) (Rw.new wr (bagC nilB 0) 24)
        replace HX0 := HX0.snoc (.ownQ (fun k => R[m].1 ≤ k ∧ k < R[m].2.1) 29 (.slice A q c) ps0) (hQ0.below (box_below wr _))
        simp only [List.nil_append, List.cons_append] at HX0
        replace HSB := HSB.below (box_below wr (.cells (bagC nilB 0) 24))
        clear hOm hps0 hQ0 hv hb H0 hq hnm
        have HAPW := Lib.hid (show aparts wr.heap.size ([.base w, .row w.heap.size 24 (bagC (.slice A0 gs.length c0) n), .row (w.heap.size + 1) 29 (g.c (.slice Au g.bytes.length cu)), .own (fun k => w1.heap.size ≤ k ∧ k < w2.heap.size) 29 (.slice A9 q9 k9) gs, .row w2.heap.size 24 (bagC (.slice A9 q9 k9) n), .bytes (fun k => X3.heap.size ≤ k ∧ k ≠ b10 ∧ k < wc.heap.size) (.slice A1 g.bytes.length c1) g.bytes, .row b10 29 (g.c (.slice A1 g.bytes.length c1)), .row (w6.heap.size + 1) 29 (Tg.c (.slice Ay Tg.bytes.length cy)), .row y1.heap.size 24 (bagsC BL)] ++ [.jk 29 R m, .ownQ (fun k => R[m].1 ≤ k ∧ k < R[m].2.1) 29 (.slice A q c) ps0]) from by
          refine aparts_append ?_ ⟨?_, ?_, trivial⟩
          · simp [aparts, F.row_fp, F.base_fp, F.own_fp, F.bytes_fp, -Nat.not_le, -Nat.not_lt] <;> omega
          · rintro ⟨k, hk, _, h1, h2⟩
            have := (HAP.out k hk _ h1 h2).1
            omega
          · rintro ⟨h1, h2⟩
            have := (HAP.out m hmR _ h1 h2).1
            omega)
        go_wp2_with (first
          | (with_reducible show wpList _ _ _ (Oper.mk _ (Op.load 24 _) _ _ _ _ :: _) _ _
             refine wpList_loadR rfl _ rfl rfl LB.out ?_)
          | (with_reducible show wpList _ _ _ (Oper.mk _ (Op.store 24 (.tmp 22) _) _ _ _ _ :: _) _ _
             refine wpList_storeR (c := bagC (.slice A q c) nm) rfl _ _ rfl rfl rfl aggB.hi (HX0.rowAt 10 rfl) rfl (bag_one _ _ _ _) ?_
             replace HX0 := HX0.setRow 10 rfl (bagC (.slice A q c) nm) HAPW.out
             simp only [List.set_cons_zero, List.set_cons_succ] at HX0
             refine gen_w (fun X => Fs _ X ∧ Sb X X5.heap.size (.slice Ay Tg.bytes.length cy) Tg.bytes.length ∧ wr.heap.size < X.heap.size) ⟨HX0, HSB.of (fun k e _ => Go.setRow_other _ _ k _ (by have := HBYT.out k e; omega)), by simp [World.setRow]⟩ ?_
             clear HX0 HSB HAPW LB
             rintro X11 ⟨HX0, HSB, hsz⟩
             have hyb := hyl
             generalize wr.heap.size = b22 at *))
        clear hyl
        go_loopw [23] (fun t W => ∃ (k : Nat) (ps : List (Gr × Value)), ps.length = q ∧ k ≤ q ∧ t = .int .i64 (k : Int) ∧ Fs [.base w, .row w.heap.size 24 (bagC (.slice A0 gs.length c0) n), .row (w.heap.size + 1) 29 (g.c (.slice Au g.bytes.length cu)), .own (fun k => w1.heap.size ≤ k ∧ k < w2.heap.size) 29 (.slice A9 q9 k9) gs, .row w2.heap.size 24 (bagC (.slice A9 q9 k9) n), .bytes (fun k => X3.heap.size ≤ k ∧ k ≠ b10 ∧ k < wc.heap.size) (.slice A1 g.bytes.length c1) g.bytes, .row b10 29 (g.c (.slice A1 g.bytes.length c1)), .row (w6.heap.size + 1) 29 (Tg.c (.slice Ay Tg.bytes.length cy)), .row y1.heap.size 24 (bagsC BL), .jk 29 R m, .row b22 24 (bagC (.slice A q c) nm), .ownQ (fun k => R[m].1 ≤ k ∧ k < R[m].2.1) 29 (.slice A q c) ps] W ∧ Sb W X5.heap.size (.slice Ay Tg.bytes.length cy) Tg.bytes.length ∧ b22 < W.heap.size) (fun t _ => q - (intOf t).toNat)
        case atStart => exact ⟨0, ps0, hpl0, Nat.zero_le _, rfl, HX0, HSB, hsz⟩
        case round =>
          clear HX0 HSB hsz
          obtain ⟨k, ps, hpl, hk, rfl, HX0, HSB, hsz⟩ := hrel
          have c22 := (HX0.rowAt 10 rfl).cell
          have hqn := (HX0.ownQAt 11 rfl).ownP.swG.len
          rw [List.length_map, hpl] at hqn
          by_cases hkq : k < q
          · have hkp : k < ps.length := by omega
            obtain ⟨bA, hAe, hpb, hbl, -, x0, x1, -, hfz⟩ := (HX0.ownQAt 11 rfl).at_ k hkp
            subst hAe
            have ik0 : (0 : Int) ≤ (k : Int) := by omega
            have ikq : (k : Int) < (q : Int) := by omega
            have hf0 := hfz (k * 3)
            have PB := hpb
            have HX1 := HX0.turn 11 rfl (.ownQ (fun k => R[m].1 ≤ k ∧ k < R[m].2.1) 29 (.slice (some ⟨bA, 0, none⟩) q c) (ps.set k (⟨-9, ps[k].1.bytes, ps[k].1.harm⟩, ps[k].2))) (j := k * 3) (x := .int .i64 (-9)) (OwnQ.to_ hkp (HX0.ownQAt 11 rfl) (-9)) (by show aparts _ ([.base w, .row w.heap.size 24 (bagC (.slice A0 gs.length c0) n), .row (w.heap.size + 1) 29 (g.c (.slice Au g.bytes.length cu)), .own (fun k => w1.heap.size ≤ k ∧ k < w2.heap.size) 29 (.slice A9 q9 k9) gs, .row w2.heap.size 24 (bagC (.slice A9 q9 k9) n), .bytes (fun k => X3.heap.size ≤ k ∧ k ≠ b10 ∧ k < wc.heap.size) (.slice A1 g.bytes.length c1) g.bytes, .row b10 29 (g.c (.slice A1 g.bytes.length c1)), .row (w6.heap.size + 1) 29 (Tg.c (.slice Ay Tg.bytes.length cy)), .row y1.heap.size 24 (bagsC BL)] ++ [.jk 29 R m, .row b22 24 (bagC (.slice (some ⟨bA, 0, none⟩) q c) nm)]); exact aparts_append ((HAP.out m hmR _ PB.1 PB.2).2 BL) ⟨jk_out HAPT.out hmR PB, (by show _ ≠ _; have := (HAP.out m hmR _ PB.1 PB.2).1; omega), trivial⟩)
            simp only [List.set_cons_zero, List.set_cons_succ] at HX1
            obtain ⟨cs29, hcs29⟩ := (HX0.ownQAt 11 rfl).heapAt
            have HSB1 := HSB.row hcs29 (by decide) (k * 3) (.int .i64 (-9))
            have hsz1 : b22 < (wr.setCell ⟨bA, k * 3, none⟩ (.int .i64 (-9))).heap.size := by simpa [World.setCell] using hsz
            have HH := Lib.hid (And.intro HX1 (And.intro HSB1 hsz1))
            clear HX1 HSB1 hsz1 hcs29 x1 hfz HX0 HSB hsz hpb
            go_wp2_with fail
            obtain ⟨HX1, HSB1, hsz1⟩ := HH.out
            obtain ⟨ps1, hps1⟩ : ∃ x, ps.set k (⟨-9, ps[k].1.bytes, ps[k].1.harm⟩, ps[k].2) = x := ⟨_, rfl⟩
            have hpl1 : ps1.length = q := by rw [← hps1, List.length_set]; exact hpl
            rw [hps1] at HX1
            have hk1 : k < ps1.length := by omega
            obtain ⟨nk, hnk⟩ : ∃ nk, ps1[k].1.bytes.length = nk := ⟨_, rfl⟩
            clear HH x0 c22 hf0 hps1 PB
            generalize wr.setCell ⟨bA, k * 3, none⟩ (.int .i64 (-9)) = X12 at *
            go_loopw [24] (fun t W => ∃ (l : Nat) (ps : List (Gr × Value)), ps.length = q ∧ (∃ hkp : k < ps.length, ps[k].1.bytes.length = nk) ∧ l ≤ nk ∧ t = .int .i64 (l : Int) ∧ Fs [.base w, .row w.heap.size 24 (bagC (.slice A0 gs.length c0) n), .row (w.heap.size + 1) 29 (g.c (.slice Au g.bytes.length cu)), .own (fun k => w1.heap.size ≤ k ∧ k < w2.heap.size) 29 (.slice A9 q9 k9) gs, .row w2.heap.size 24 (bagC (.slice A9 q9 k9) n), .bytes (fun k => X3.heap.size ≤ k ∧ k ≠ b10 ∧ k < wc.heap.size) (.slice A1 g.bytes.length c1) g.bytes, .row b10 29 (g.c (.slice A1 g.bytes.length c1)), .row (w6.heap.size + 1) 29 (Tg.c (.slice Ay Tg.bytes.length cy)), .row y1.heap.size 24 (bagsC BL), .jk 29 R m, .row b22 24 (bagC (.slice (some ⟨bA, 0, none⟩) q c) nm), .ownQ (fun k => R[m].1 ≤ k ∧ k < R[m].2.1) 29 (.slice (some ⟨bA, 0, none⟩) q c) ps] W ∧ Sb W X5.heap.size (.slice Ay Tg.bytes.length cy) Tg.bytes.length ∧ b22 < W.heap.size) (fun t _ => nk - (intOf t).toNat)
            case atStart => exact ⟨0, ps1, hpl1, ⟨hk1, hnk⟩, Nat.zero_le _, rfl, HX1, HSB1, hsz1⟩
            case round =>
              clear HX1 HSB1 hsz1 hnk hk1 hpl1
              obtain ⟨l, ps2, hpl2, ⟨hk2, hnk⟩, hl, rfl, HX0, HSB, hsz⟩ := hrel
              have c22 := (HX0.rowAt 10 rfl).cell
              obtain ⟨bA', hAe, hpb, hbl2, -, x0, x1, -, hfz⟩ := (HX0.ownQAt 11 rfl).at_ k hk2
              injection hAe with hAe
              injection hAe with hAe
              subst hAe
              have ho := (HX0.ownQAt 11 rfl).nest.own _ (List.getElem_mem hk2)
              have hnl := (Sw.of_sl (Sl.of_own ho)).len
              rw [bv_length, hnk] at hnl
              by_cases hlk : l < nk
              · obtain ⟨ub, cap, hu, xb, fb, hpu, hul⟩ := (HX0.ownQAt 11 rfl).bytes_ k hk2 l (by omega)
                have hll : l < ps2[k].1.bytes.length := by omega
                obtain ⟨z, hz⟩ : ∃ z, ps2[k].1.bytes[l] = z := ⟨_, rfl⟩
                rw [hz] at xb
                rw [hu, hnk] at x1
                have il0 : (0 : Int) ≤ (l : Int) := by omega
                have ilk : (l : Int) < (nk : Int) := by omega
                have hxor : bits .xor .u8 (z.toNat : Int) 255 = ((z ^^^ 255).toNat : Int) := xor_nat z 255
                have PB := hpu
                have HX1 := HX0.turn 11 rfl (.ownQ (fun k => R[m].1 ≤ k ∧ k < R[m].2.1) 29 (.slice (some ⟨bA, 0, none⟩) q c) (ps2.set k (⟨ps2[k].1.to, ps2[k].1.bytes.set l (z ^^^ 255), ps2[k].1.harm⟩, ps2[k].2))) (j := l) (x := .int .u8 ((z ^^^ 255).toNat : Int)) ((HX0.ownQAt 11 rfl).byte k hk2 l hll hu (z ^^^ 255)) (by show aparts _ ([.base w, .row w.heap.size 24 (bagC (.slice A0 gs.length c0) n), .row (w.heap.size + 1) 29 (g.c (.slice Au g.bytes.length cu)), .own (fun k => w1.heap.size ≤ k ∧ k < w2.heap.size) 29 (.slice A9 q9 k9) gs, .row w2.heap.size 24 (bagC (.slice A9 q9 k9) n), .bytes (fun k => X3.heap.size ≤ k ∧ k ≠ b10 ∧ k < wc.heap.size) (.slice A1 g.bytes.length c1) g.bytes, .row b10 29 (g.c (.slice A1 g.bytes.length c1)), .row (w6.heap.size + 1) 29 (Tg.c (.slice Ay Tg.bytes.length cy)), .row y1.heap.size 24 (bagsC BL)] ++ [.jk 29 R m, .row b22 24 (bagC (.slice (some ⟨bA, 0, none⟩) q c) nm)]); exact aparts_append ((HAP.out m hmR _ PB.1 PB.2).2 BL) ⟨jk_out HAPT.out hmR PB, (by show _ ≠ _; have := (HAP.out m hmR _ PB.1 PB.2).1; omega), trivial⟩)
                simp only [List.set_cons_zero, List.set_cons_succ] at HX1
                have HSB1 := HSB.byte (b := ub) l (z ^^^ 255)
                have hsz1 : b22 < (wr.setCell ⟨ub, l, none⟩ (.int .u8 ((z ^^^ 255).toNat : Int))).heap.size := by simpa [World.setCell] using hsz
                have HH := Lib.hid (And.intro HX1.drew (And.intro (HSB1.below (Below.refl _ _).drew) hsz1))
                have HNK := Lib.hid hnk
                clear HX1 HSB1 hsz1 x0 hfz HX0 HSB hsz hpb hu hz hll PB ho hnk
                generalize z ^^^ 255 = zz at *
                go_wp2
                go_still_tail 18, (by kernel_rfl)
                change wpList _ _ _ _ _ wr.drew
                go_wp2
                exact ⟨⟨l + 1, _, by simp [hpl2], ⟨by simpa using hk2, by simp [HNK.out]⟩, by omega, by go_num, HH.out.1, HH.out.2.1, HH.out.2.2⟩, by simp [intOf]; omega⟩
              · obtain rfl : l = nk := by omega
                rw [hnk] at ho
                obtain ⟨Ak, ck, hu⟩ := (Sl.of_own ho).form
                rw [hu, bv_length, hnk] at x1
                have ik0 : (0 : Int) ≤ (k : Int) := by omega
                have HH := Lib.hid (And.intro HX0 (And.intro HSB hsz))
                clear HX0 HSB hsz x0 hfz hpb hu ho
                go_wp2
                exact ⟨⟨k + 1, ps2, hpl2, by omega, by go_num, HH.out.1, HH.out.2.1, HH.out.2.2⟩, by simp [intOf]; omega⟩
          · obtain rfl : k = q := by omega
            have HH := Lib.hid (And.intro HX0 (And.intro HSB hsz))
            clear HX0 HSB hsz
            go_wp2
            refine ⟨⟨m + 1, by omega, by go_num, (HH.out.1.sub (m := [.base w, .row w.heap.size 24 (bagC (.slice A0 gs.length c0) n), .row (w.heap.size + 1) 29 (g.c (.slice Au g.bytes.length cu)), .own (fun k => w1.heap.size ≤ k ∧ k < w2.heap.size) 29 (.slice A9 q9 k9) gs, .row w2.heap.size 24 (bagC (.slice A9 q9 k9) n), .bytes (fun k => X3.heap.size ≤ k ∧ k ≠ b10 ∧ k < wc.heap.size) (.slice A1 g.bytes.length c1) g.bytes, .row b10 29 (g.c (.slice A1 g.bytes.length c1)), .row (w6.heap.size + 1) 29 (Tg.c (.slice Ay Tg.bytes.length cy)), .row y1.heap.size 24 (bagsC BL)]) (by simp)).snoc (.jk 29 R 6) (fun x hx hne => ?_), HH.out.2.1, by have := HH.out.2.2; omega⟩, by simp [intOf]; omega⟩
            by_cases hxm : x = m
            · subst hxm
              have h := (HH.out.1.ownQAt 11 rfl).ownP
              rw [← HV.out] at h
              exact ⟨_, h⟩
            · exact HH.out.1.jkAt 9 rfl x hx hxm
      · obtain rfl : m = 6 := by omega
        replace H0 := H0.sub (m := [.base w, .row w.heap.size 24 (bagC (.slice A0 gs.length c0) n), .row (w.heap.size + 1) 29 (g.c (.slice Au g.bytes.length cu)), .own (fun k => w1.heap.size ≤ k ∧ k < w2.heap.size) 29 (.slice A9 q9 k9) gs, .row w2.heap.size 24 (bagC (.slice A9 q9 k9) n), .bytes (fun k => X3.heap.size ≤ k ∧ k ≠ b10 ∧ k < wc.heap.size) (.slice A1 g.bytes.length c1) g.bytes, .row b10 29 (g.c (.slice A1 g.bytes.length c1)), .row (w6.heap.size + 1) 29 (Tg.c (.slice Ay Tg.bytes.length cy))]) (by simp)
        clear hyl
        go_wp2_with fail
        go_loopw [25] (fun t W => ∃ l : Nat, l ≤ Tg.bytes.length ∧ t = .int .i64 (l : Int) ∧ Fs [.base w, .row w.heap.size 24 (bagC (.slice A0 gs.length c0) n), .row (w.heap.size + 1) 29 (g.c (.slice Au g.bytes.length cu)), .own (fun k => w1.heap.size ≤ k ∧ k < w2.heap.size) 29 (.slice A9 q9 k9) gs, .row w2.heap.size 24 (bagC (.slice A9 q9 k9) n), .bytes (fun k => X3.heap.size ≤ k ∧ k ≠ b10 ∧ k < wc.heap.size) (.slice A1 g.bytes.length c1) g.bytes, .row b10 29 (g.c (.slice A1 g.bytes.length c1)), .row (w6.heap.size + 1) 29 (Tg.c (.slice Ay Tg.bytes.length cy))] W ∧ Sb W X5.heap.size (.slice Ay Tg.bytes.length cy) Tg.bytes.length) (fun t _ => Tg.bytes.length - (intOf t).toNat)
        case atStart => exact ⟨0, Nat.zero_le _, rfl, H0, HSB⟩
        case round =>
          clear H0 HSB
          obtain ⟨l, hl, rfl, H0, HSB⟩ := hrel
          have c13 := (H0.rowAt 7 rfl).cell
          have HSB0 := Lib.hid HSB
          obtain ⟨lb, hlb, ho⟩ := HSB
          have hnl := (Sw.of_sl (Sl.of_own ho)).len
          rw [bv_length, hlb] at hnl
          by_cases hll : l < Tg.bytes.length
          · rcases ho.2 with ⟨_, h0⟩ | ⟨ku, cap, cur, hv, hlo, hgk, _⟩
            · omega
            injection hv with hv1 hv2 hv3
            subst hv1 hv3
            have hl2 : l < lb.length := by omega
            have xb := (Sl.of_own ho).parts.2.2.2.2 l _ (bv_get lb l hl2)
            rw [Nat.zero_add] at xb
            have fb : wr.frozen? ⟨ku, l, none⟩ = false := by unfold World.frozen?; rw [hgk]; simp
            obtain ⟨z, hz⟩ : ∃ z, lb[l] = z := ⟨_, rfl⟩
            rw [hz] at xb
            have il0 : (0 : Int) ≤ (l : Int) := by omega
            have ilk : (l : Int) < (Tg.bytes.length : Int) := by omega
            have hxor : bits .xor .u8 (z.toNat : Int) 255 = ((z ^^^ 255).toNat : Int) := xor_nat z 255
            have hku := HBYT.out ku rfl
            have HX1 := H0.out (b := ku) (j := l) (x := .int .u8 ((z ^^^ 255).toNat : Int)) (by simp [aparts, F.row_fp, F.base_fp, F.own_fp, F.bytes_fp, -Nat.not_le, -Nat.not_lt] <;> omega)
            have HSB1 := HSB0.out.byte (b := ku) l (z ^^^ 255)
            have HH := Lib.hid (And.intro HX1.drew (HSB1.below (Below.refl _ _).drew))
            clear HX1 HSB1 H0 HSB0 ho hlo hgk hv2 hz hl2 hlb
            generalize z ^^^ 255 = zz at *
            go_wp2
            go_still_tail 10, (by kernel_rfl)
            change wpList _ _ _ _ _ wr.drew
            go_wp2
            go_roundw
            case rel => (repeat apply Exists.intro); exact ⟨⟨l + 1, by omega, by go_num, HH.out.1, HH.out.2⟩, rfl⟩
            case measure => simp [intOf]; omega
          · obtain rfl : l = Tg.bytes.length := by omega
            clear ho HSB0
            go_wp2_with (first
              | (with_reducible show wpList _ _ _ (Oper.mk _ (Op.load 24 (.tmp 4)) _ _ _ _ :: _) _ _
                 refine wpList_loadW (H0.rowAt 1 rfl) aggB rfl _ rfl rfl ?_)
              | (with_reducible show wpList _ _ _ (Oper.mk _ (Op.load 24 (.tmp 9)) _ _ _ _ :: _) _ _
                 refine wpList_loadW (H0.rowAt 4 rfl) aggB rfl _ rfl rfl ?_))
            refine (rsame_same _ _ n gs _ (HS.out.below (H0.baseAt 0 rfl)) (H0.ownAt 3 rfl).swG).mono ?_; rintro e Y1 ⟨rfl, hz⟩
            replace H0 := H0.call hz
            clear hz c13
            go_wp2_with (first
              | (with_reducible show wpList _ _ _ (Oper.mk _ (Op.load 29 (.tmp 5)) _ _ _ _ :: _) _ _
                 refine wpList_loadW (H0.rowAt 2 rfl) aggG rfl _ rfl rfl ?_)
              | (with_reducible show wpList _ _ _ (Oper.mk _ (Op.load 29 (.tmp 10)) _ _ _ _ :: _) _ _
                 refine wpList_loadW (H0.rowAt 6 rfl) aggG rfl _ rfl rfl ?_))
            refine (rgram_same g _ _ _ (HU.out.below (H0.baseAt 0 rfl)) (.inl (Sl.of_own (H0.bytesAt 5 rfl)))).mono ?_; rintro e Y2 ⟨rfl, hz⟩
            replace H0 := H0.call hz
            clear hz
            go_wp2_with fail
            refine (wakes_any _).mono ?_; rintro e Y3 ⟨rfl, hz⟩
            have G3 := Lib.hid ((H0.call hz).baseAt 0 rfl)
            clear H0 hz
            go_wp2
            go_ret
            exact ⟨rfl, G3.out⟩
end Go.Proofs.Ytdoigpifkdkjpaa
