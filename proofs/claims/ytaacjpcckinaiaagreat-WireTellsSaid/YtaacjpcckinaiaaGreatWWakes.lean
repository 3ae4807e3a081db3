/- What the document says of a ping: 'wakes' answers true wherever it is called. -/
import Derived.Test.YtaacjpcckinaiaaGreatWFacts
set_option linter.unusedVariables false
set_option maxRecDepth 100000
set_option linter.unusedSimpArgs false
namespace Go.Proofs.YtaacjpcckinaiaaGreat
open Go.RowKit Go.Shelf Ms

theorem run_slice10 (w : World) : (Instr.buildSlice 28 10 #[(0, .int .u8 1), (1, .int .u8 2), (2, .int .u8 3), (3, .int .u8 16), (4, .int .u8 0), (5, .int .u8 1), (6, .int .u8 1), (7, .int .u8 1), (8, .int .u8 1), (9, .int .u8 2)]).run Tryz.prog w =
    .ok (.slice (some ⟨w.heap.size, 0, none⟩) 10 10) (w.alloc (.cells (bv pB).toArray 5)) :=
  run_buildSlice w 28 5 10 _ _ _ _ (by kernel_rfl) rfl rfl (by decide) (by decide) (by kernel_rfl)
set_option maxHeartbeats 8000000 in
theorem wakes_any (w : World) : Calls Tryz.prog 9 #[] w fun e w' => e = .returned (.bool true) ∧ Below w.heap.size w w' := by
  have a2 := fun w => Payload_any pm none 0 [] (by decide) w (Sl.nil_ w)
  simp only [pm_right, if_true, pm_pay] at a2
  have a3 := fun v w h => Read_any v pB w h
  simp only [pm_read] at a3
  have a4 := fun w => Put_any pm none 0 [] (by decide) w (Sl.nil_ w)
  simp only [payE, pm_right, if_true] at a4
  have hl := pm_put_len
  have a5 := fun v w h => Take_any v (putR pm []) w h
  simp only [take_put pm_right] at a5
  generalize putR pm [] = B18 at a4 a5 hl
  have a6 := fun w => Put_any noM none 0 [] (by decide) w (Sl.nil_ w)
  simp only [payE, no_right, Bool.false_eq_true, if_false] at a6
  have a7 := fun v w h => Take_any v [71, 1, 0, 0] w h
  simp only [short_take] at a7
  have a8 := fun v w h => Read_any v [0, 0, 0, 0] w h
  simp only [zero_read] at a8
  have A2 := Lib.hid a2
  have A3 := Lib.hid a3
  have A4 := Lib.hid a4
  have A5 := Lib.hid a5
  have A6 := Lib.hid a6
  have A7 := Lib.hid a7
  have A8 := Lib.hid a8
  have HL := Lib.hid hl
  clear a2 a3 a4 a5 a6 a7 a8 hl
  have H := Below.refl w.heap.size w
  go_enter Tryz.func9, Tryz.ntmps9
  go_wp2_with fail
  refine (ping_any _).mono ?_; rintro e w1 ⟨rfl, hb⟩
  replace H := H.trans (hb.mono H.size)
  clear hb
  go_wp2_with fail
  refine (A2.out _).mono ?_; rintro e w2 ⟨v1, rfl, hs1, hb⟩
  replace H := H.trans (hb.mono H.size)
  have s1 := hs1.sl
  clear hb hs1
  go_wp2_with fail
  refine (A3.out _ _ s1).mono ?_; rintro e w3 ⟨lv3, rfl, hs3, hb⟩
  replace H := H.trans (hb.mono H.size)
  replace s1 := s1.below hb
  obtain ⟨A3', n3, c3, rfl⟩ := hs3.sl.slice
  have s3 := hs3.sl
  clear hb hs3
  have r3' := (Rw.new w3 (noM.c nilS) 27).setRow (c' := pm.c (.slice A3' n3 c3))
  have B3 := below_setRow (box_below w3 (.cells (noM.c nilS) 27)) (Nat.le_refl _) (pm.c (.slice A3' n3 c3))
  go_wp2_with (with_reducible show wpList _ _ _ (Oper.mk _ (Op.store 27 (.tmp 3) _) _ _ _ _ :: _) _ _
               refine wpList_storeR (c := pm.c (.slice A3' n3 c3)) rfl _ _ rfl rfl rfl agg27.hi (Rw.new w3 (noM.c nilS) 27) rfl (M.one _ rfl) ?_)
  refine (ping_any _).mono ?_; rintro e w4 ⟨rfl, hb⟩
  replace H := (H.trans (B3.mono H.size)).trans (hb.mono (Nat.le_trans H.size B3.size))
  replace s1 := (s1.below B3).below hb
  replace s3 := (s3.below B3).below hb
  have r3 := r3'.below hb
  clear hb B3 r3'
  go_wp2_with fail
  refine (A4.out _).mono ?_; rintro e w5 ⟨v5, rfl, s5, hb⟩
  replace H := H.trans (hb.mono H.size)
  replace s1 := s1.below hb
  replace s3 := s3.below hb
  replace r3 := r3.below hb
  clear hb
  go_wp2_with fail
  refine (A5.out _ _ s5).mono ?_; rintro e w6 ⟨lv7, rfl, s7, hb⟩
  replace H := H.trans (hb.mono H.size)
  replace s1 := s1.below hb
  replace s3 := s3.below hb
  replace s5 := s5.below hb
  replace r3 := r3.below hb
  obtain ⟨A7', n7, c7, rfl⟩ := s7.slice
  clear hb
  have r7' := (Rw.new w6 (noM.c nilS) 27).setRow (c' := pm.c (.slice A7' n7 c7))
  have B7 := below_setRow (box_below w6 (.cells (noM.c nilS) 27)) (Nat.le_refl _) (pm.c (.slice A7' n7 c7))
  go_wp2_with (with_reducible show wpList _ _ _ (Oper.mk _ (Op.store 27 (.tmp 7) _) _ _ _ _ :: _) _ _
               refine wpList_storeR (c := pm.c (.slice A7' n7 c7)) rfl _ _ rfl rfl rfl agg27.hi (Rw.new w6 (noM.c nilS) 27) rfl (M.one _ rfl) ?_)
  refine (A6.out _).mono ?_; rintro e w7 ⟨v9, rfl, _, hb⟩
  replace H := (H.trans (B7.mono H.size)).trans (hb.mono (Nat.le_trans H.size B7.size))
  replace s1 := (s1.below B7).below hb
  replace s3 := (s3.below B7).below hb
  replace s5 := (s5.below B7).below hb
  replace s7 := (s7.below B7).below hb
  replace r3 := (r3.below B7).below hb
  have r7 := r7'.below hb
  clear hb B7 r7'
  go_wp2_with fail
  refine (A7.out _ _ (Sl.lit _ (bv [71, 1, 0, 0]) 5 _ (by rfl) (by decide))).mono ?_; rintro e w8 ⟨lv11, rfl, s11, hb⟩
  have HB := (Below.refl _ w7).alloc (Nat.le_refl _) (.cells (bv [71, 1, 0, 0]).toArray 5)
  replace hb := HB.trans (hb.mono HB.size)
  replace H := H.trans (hb.mono H.size)
  replace s1 := s1.below hb
  replace s3 := s3.below hb
  replace s5 := s5.below hb
  replace s7 := s7.below hb
  replace r3 := r3.below hb
  replace r7 := r7.below hb
  obtain ⟨A11', n11, c11, rfl⟩ := s11.slice
  clear hb HB s11
  have B11 := below_setRow (box_below w8 (.cells (noM.c nilS) 27)) (Nat.le_refl _) (noM.c (.slice A11' n11 c11))
  replace H := H.trans (B11.mono H.size)
  replace s1 := s1.below B11
  replace s3 := s3.below B11
  replace s5 := s5.below B11
  replace s7 := s7.below B11
  replace r3 := r3.below B11
  replace r7 := r7.below B11
  clear B11
  go_wp2_with (with_reducible show wpList _ _ _ (Oper.mk _ (Op.store 27 (.tmp 11) _) _ _ _ _ :: _) _ _
               refine wpList_storeR (c := noM.c (.slice A11' n11 c11)) rfl _ _ rfl rfl rfl agg27.hi (Rw.new w8 (noM.c nilS) 27) rfl (M.one _ rfl) ?_
               refine gen_w (fun X => Below w.heap.size w X ∧ Sl X v1 (bv pB) ∧ Sl X (.slice A3' n3 c3) (iv []) ∧ Sl X v5 (bv B18) ∧ Sl X (.slice A7' n7 c7) (iv []) ∧ Rw X w3.heap.size 27 (pm.c (.slice A3' n3 c3)) ∧ Rw X w6.heap.size 27 (pm.c (.slice A7' n7 c7))) ⟨H, s1, s3, s5, s7, r3, r7⟩ ?_
               clear H s1 s3 s5 s7 r3 r7
               rintro wa ⟨H, s1, s3, s5, s7, r3, r7⟩)
  refine (A8.out _ _ (Sl.lit _ (bv [0, 0, 0, 0]) 5 _ (by rfl) (by decide))).mono ?_; rintro e w9 ⟨lv13, rfl, s13, hb⟩
  have HB := (Below.refl _ wa).alloc (Nat.le_refl _) (.cells (bv [0, 0, 0, 0]).toArray 5)
  replace hb := HB.trans (hb.mono HB.size)
  replace H := H.trans (hb.mono H.size)
  replace s1 := s1.below hb
  replace s3 := s3.below hb
  replace s5 := s5.below hb
  replace s7 := s7.below hb
  replace r3 := r3.below hb
  replace r7 := r7.below hb
  obtain ⟨A13', n13, c13, rfl⟩ := s13.sl.slice
  clear hb HB s13
  have B13 := below_setRow (box_below w9 (.cells (noM.c nilS) 27)) (Nat.le_refl _) (noM.c (.slice A13' n13 c13))
  replace H := H.trans (B13.mono H.size)
  replace s1 := s1.below B13
  replace s3 := s3.below B13
  replace s5 := s5.below B13
  replace s7 := s7.below B13
  replace r3 := r3.below B13
  replace r7 := r7.below B13
  clear B13
  go_wp2_with (with_reducible show wpList _ _ _ (Oper.mk _ (Op.store 27 (.tmp 13) _) _ _ _ _ :: _) _ _
               refine wpList_storeR (c := noM.c (.slice A13' n13 c13)) rfl _ _ rfl rfl rfl agg27.hi (Rw.new w9 (noM.c nilS) 27) rfl (M.one _ rfl) ?_
               refine gen_w (fun X => Below w.heap.size w X ∧ Sl X v1 (bv pB) ∧ Sl X (.slice A3' n3 c3) (iv []) ∧ Sl X v5 (bv B18) ∧ Sl X (.slice A7' n7 c7) (iv []) ∧ Rw X w3.heap.size 27 (pm.c (.slice A3' n3 c3)) ∧ Rw X w6.heap.size 27 (pm.c (.slice A7' n7 c7))) ⟨H, s1, s3, s5, s7, r3, r7⟩ ?_
               clear H s1 s3 s5 s7 r3 r7
               rintro w10 ⟨H, s1, s3, s5, s7, r3, r7⟩)
  obtain ⟨A5', c5, rfl⟩ := s5.form
  rw [bv_length, HL.out] at *
  refine wp_region_guards (RD [.val (.int .i64 0), .val (.bool true), .val (.bool true), .val (v1), .bytes pB, .val (.bool true), .val (.bool true), .val (.bool true), .val (.int .i64 0), .val (.bool true), .val (.bool true), .val (.bool true), .val (.agg (pm.c (.slice A3' n3 c3))), .val (.agg (pm.c nilS)), .val (.bool true), .val (.bool true), .val (.bool true), .val (.int .i64 0), .val (.bool true), .val (.bool true), .val (.bool true), .val ((.slice A5' 18 c5)), .val (.int .i64 18), .val (.bool true), .val (.bool true), .val (.bool true), .val (.int .i64 0), .val (.bool true), .val (.bool true), .val (.bool true), .val (.agg (pm.c (.slice A7' n7 c7))), .val (.agg (pm.c nilS)), .val (.bool true), .val (.bool true), .val (.bool true), .val (.int .i64 2), .val (.bool true), .val (.bool true), .val (.bool true), .val (.int .i64 11), .val (.bool true), .val (.bool true), .val (.bool true), .val (.int .i64 12), .val (.bool true), .val (.bool true), .val (.bool true), .val (.int .i64 46), .val (.bool true), .val (.bool true), .val (.bool true)]) (fun W => Below w10.heap.size w10 W) (by kernel_rfl) (by kernel_rfl) (Below.refl _ w10).drew ?_ ?_ ?_
  · refine ⟨guard_no rfl, guard_no rfl, guard_no rfl, guard_yes 2 true rfl (by kernel_rfl) (by kernel_rfl) (by kernel_rfl) (fun u W h => h), guard_yes 2 true rfl (by kernel_rfl) (by kernel_rfl) (by kernel_rfl) (fun u W h => h), guard_yes 2 true rfl (by kernel_rfl) (by kernel_rfl) (by kernel_rfl) (fun u W h => h), guard_no rfl, guard_no rfl, guard_yes 7 true rfl (by kernel_rfl) (by kernel_rfl) (by kernel_rfl) (fun u W h => h), guard_yes 7 true rfl (by kernel_rfl) (by kernel_rfl) (by kernel_rfl) (fun u W h => h), guard_no rfl, guard_no rfl, guard_yes 11 true rfl (by kernel_rfl) (by kernel_rfl) (by kernel_rfl) (fun u W h => h), guard_yes 11 true rfl (by kernel_rfl) (by kernel_rfl) (by kernel_rfl) (fun u W h => h), guard_yes 11 true rfl (by kernel_rfl) (by kernel_rfl) (by kernel_rfl) (fun u W h => h), guard_no rfl, guard_no rfl, guard_yes 16 true rfl (by kernel_rfl) (by kernel_rfl) (by kernel_rfl) (fun u W h => h), guard_yes 16 true rfl (by kernel_rfl) (by kernel_rfl) (by kernel_rfl) (fun u W h => h), guard_no rfl, guard_no rfl, guard_yes 20 true rfl (by kernel_rfl) (by kernel_rfl) (by kernel_rfl) (fun u W h => h), guard_yes 20 true rfl (by kernel_rfl) (by kernel_rfl) (by kernel_rfl) (fun u W h => h), guard_yes 20 true rfl (by kernel_rfl) (by kernel_rfl) (by kernel_rfl) (fun u W h => h), guard_no rfl, guard_no rfl, guard_yes 25 true rfl (by kernel_rfl) (by kernel_rfl) (by kernel_rfl) (fun u W h => h), guard_yes 25 true rfl (by kernel_rfl) (by kernel_rfl) (by kernel_rfl) (fun u W h => h), guard_no rfl, guard_no rfl, guard_yes 29 true rfl (by kernel_rfl) (by kernel_rfl) (by kernel_rfl) (fun u W h => h), guard_yes 29 true rfl (by kernel_rfl) (by kernel_rfl) (by kernel_rfl) (fun u W h => h), guard_yes 29 true rfl (by kernel_rfl) (by kernel_rfl) (by kernel_rfl) (fun u W h => h), guard_no rfl, guard_no rfl, guard_yes 34 true rfl (by kernel_rfl) (by kernel_rfl) (by kernel_rfl) (fun u W h => h), guard_yes 34 true rfl (by kernel_rfl) (by kernel_rfl) (by kernel_rfl) (fun u W h => h), guard_no rfl, guard_no rfl, guard_yes 38 true rfl (by kernel_rfl) (by kernel_rfl) (by kernel_rfl) (fun u W h => h), guard_yes 38 true rfl (by kernel_rfl) (by kernel_rfl) (by kernel_rfl) (fun u W h => h), guard_no rfl, guard_no rfl, guard_yes 42 true rfl (by kernel_rfl) (by kernel_rfl) (by kernel_rfl) (fun u W h => h), guard_yes 42 true rfl (by kernel_rfl) (by kernel_rfl) (by kernel_rfl) (fun u W h => h), guard_no rfl, guard_no rfl, guard_yes 46 true rfl (by kernel_rfl) (by kernel_rfl) (by kernel_rfl) (fun u W h => h), guard_yes 46 true rfl (by kernel_rfl) (by kernel_rfl) (by kernel_rfl) (fun u W h => h), guard_no rfl, guard_no rfl, trivial⟩
  · refine ⟨fun a W hC hS => ?_, fun a W hC hS => ?_, fun a W hC hS => ?_, fun a W hC hS => ?_, fun a W hC hS => ?_, fun a W hC hS => ?_, fun a W hC hS => ?_, fun a W hC hS => ?_, fun a W hC hS => ?_, fun a W hC hS => ?_, fun a W hC hS => ?_, fun a W hC hS => ?_, fun a W hC hS => ?_, fun a W hC hS => ?_, fun a W hC hS => ?_, fun a W hC hS => ?_, fun a W hC hS => ?_, fun a W hC hS => ?_, fun a W hC hS => ?_, fun a W hC hS => ?_, fun a W hC hS => ?_, fun a W hC hS => ?_, fun a W hC hS => ?_, fun a W hC hS => ?_, fun a W hC hS => ?_, fun a W hC hS => ?_, fun a W hC hS => ?_, fun a W hC hS => ?_, fun a W hC hS => ?_, fun a W hC hS => ?_, fun a W hC hS => ?_, fun a W hC hS => ?_, fun a W hC hS => ?_, fun a W hC hS => ?_, fun a W hC hS => ?_, fun a W hC hS => ?_, fun a W hC hS => ?_, fun a W hC hS => ?_, fun a W hC hS => ?_, fun a W hC hS => ?_, fun a W hC hS => ?_, fun a W hC hS => ?_, fun a W hC hS => ?_, fun a W hC hS => ?_, fun a W hC hS => ?_, fun a W hC hS => ?_, fun a W hC hS => ?_, fun a W hC hS => ?_, fun a W hC hS => ?_, fun a W hC hS => ?_, fun a W hC hS => ?_, trivial⟩
    · have h0 : a.tmps.getD 2 undef = .int .i64 0 := hS.base 2 (by kernel_rfl)
      exact owed_pure (v := .int .i64 0) (by simp [execOp, Act.eval, gd h0, go_sem]) hC rfl
    · obtain ⟨v0, h0, rfl⟩ := hS.dep 0 50 (by kernel_rfl) (by kernel_rfl)
      exact owed_pure (v := .bool true) (by simp [execOp, Act.eval, gd h0, go_sem]) hC rfl
    · obtain ⟨v1, h0, rfl⟩ := hS.dep 1 51 (by kernel_rfl) (by kernel_rfl)
      exact owed_pure (v := .bool true) (by simp [execOp, Act.eval, gd h0, go_sem]) hC rfl
    · have h0 : a.tmps.getD 1 undef = v1 := hS.base 1 (by kernel_rfl)
      exact owed_pure (v := v1) (by simp [execOp, Act.eval, gd h0, go_sem]) hC rfl
    · exact owed_run (by simp [execOp, Act.eval, run_slice10]) ((Below.refl _ W).alloc (Nat.le_refl _) _) (RD.behind hC _) (Sl.lit W (bv pB) 5 10 rfl (by decide))
    · obtain ⟨v3, h0, rfl⟩ := hS.dep 3 53 (by kernel_rfl) (by kernel_rfl)
      obtain ⟨v4, h1, hl4⟩ := hS.dep 4 54 (by kernel_rfl) (by kernel_rfl)
      refine owed_call rfl (enters_of Tryz.func14 (by kernel_rfl) rfl) (by simp [Act.eval, gd h0, gd h1]) (RD.behind hC _) ((same_any _ _ pB pB W (s1.below hC) hl4).mono ?_)
      rintro e w' ⟨rfl, rfl⟩
      exact ⟨_, rfl, rfl, Below.refl _ _⟩
    · obtain ⟨v2, h0, rfl⟩ := hS.dep 2 52 (by kernel_rfl) (by kernel_rfl)
      obtain ⟨v5, h1, rfl⟩ := hS.dep 5 55 (by kernel_rfl) (by kernel_rfl)
      exact owed_pure (v := .bool true) (by simp [execOp, Act.eval, gd h0, gd h1, go_sem]) hC rfl
    · obtain ⟨v6, h0, rfl⟩ := hS.dep 6 56 (by kernel_rfl) (by kernel_rfl)
      exact owed_pure (v := .bool true) (by simp [execOp, Act.eval, gd h0, go_sem]) hC rfl
    · have h0 : a.tmps.getD 4 undef = .int .i64 0 := hS.base 4 (by kernel_rfl)
      exact owed_pure (v := .int .i64 0) (by simp [execOp, Act.eval, gd h0, go_sem]) hC rfl
    · obtain ⟨v8, h0, rfl⟩ := hS.dep 8 58 (by kernel_rfl) (by kernel_rfl)
      exact owed_pure (v := .bool true) (by simp [execOp, Act.eval, gd h0, go_sem]) hC rfl
    · obtain ⟨v7, h0, rfl⟩ := hS.dep 7 57 (by kernel_rfl) (by kernel_rfl)
      obtain ⟨v9, h1, rfl⟩ := hS.dep 9 59 (by kernel_rfl) (by kernel_rfl)
      exact owed_pure (v := .bool true) (by simp [execOp, Act.eval, gd h0, gd h1, go_sem]) hC rfl
    · obtain ⟨v10, h0, rfl⟩ := hS.dep 10 60 (by kernel_rfl) (by kernel_rfl)
      exact owed_pure (v := .bool true) (by simp [execOp, Act.eval, gd h0, go_sem]) hC rfl
    · have h0 : a.tmps.getD 3 undef = ptr w3.heap.size := hS.base 3 (by kernel_rfl)
      exact owed_pure (v := .agg (pm.c (.slice A3' n3 c3))) (exec_loadR (.tmp 3) rfl (by simp [Act.eval, gd h0]) (run_loadR agg27 (r3.below hC))) hC rfl
    · exact owed_call rfl (enters_of Tryz.func23 (by kernel_rfl) rfl) (by simp) (RD.behind hC _) ((ping_any W).mono fun e w' ⟨h1, h2⟩ => ⟨_, h1, rfl, h2⟩)
    · obtain ⟨v12, h0, rfl⟩ := hS.dep 12 62 (by kernel_rfl) (by kernel_rfl)
      obtain ⟨v13, h1, rfl⟩ := hS.dep 13 63 (by kernel_rfl) (by kernel_rfl)
      refine owed_call rfl (enters_of Tryz.func15 (by kernel_rfl) rfl) (by simp [Act.eval, gd h0, gd h1]) (RD.behind hC _) ((rSame_any pm pm _ _ [] [] W (s3.below hC) (Sl.nil_ _)).mono ?_)
      rintro e w' ⟨rfl, hb⟩
      exact ⟨_, rfl, by rw [same_iff.2 ⟨rfl, rfl⟩]; rfl, hb⟩
    · obtain ⟨v11, h0, rfl⟩ := hS.dep 11 61 (by kernel_rfl) (by kernel_rfl)
      obtain ⟨v14, h1, rfl⟩ := hS.dep 14 64 (by kernel_rfl) (by kernel_rfl)
      exact owed_pure (v := .bool true) (by simp [execOp, Act.eval, gd h0, gd h1, go_sem]) hC rfl
    · obtain ⟨v15, h0, rfl⟩ := hS.dep 15 65 (by kernel_rfl) (by kernel_rfl)
      exact owed_pure (v := .bool true) (by simp [execOp, Act.eval, gd h0, go_sem]) hC rfl
    · have h0 : a.tmps.getD 6 undef = .int .i64 0 := hS.base 6 (by kernel_rfl)
      exact owed_pure (v := .int .i64 0) (by simp [execOp, Act.eval, gd h0, go_sem]) hC rfl
    · obtain ⟨v17, h0, rfl⟩ := hS.dep 17 67 (by kernel_rfl) (by kernel_rfl)
      exact owed_pure (v := .bool true) (by simp [execOp, Act.eval, gd h0, go_sem]) hC rfl
    · obtain ⟨v16, h0, rfl⟩ := hS.dep 16 66 (by kernel_rfl) (by kernel_rfl)
      obtain ⟨v18, h1, rfl⟩ := hS.dep 18 68 (by kernel_rfl) (by kernel_rfl)
      exact owed_pure (v := .bool true) (by simp [execOp, Act.eval, gd h0, gd h1, go_sem]) hC rfl
    · obtain ⟨v19, h0, rfl⟩ := hS.dep 19 69 (by kernel_rfl) (by kernel_rfl)
      exact owed_pure (v := .bool true) (by simp [execOp, Act.eval, gd h0, go_sem]) hC rfl
    · have h0 : a.tmps.getD 5 undef = (.slice A5' 18 c5) := hS.base 5 (by kernel_rfl)
      exact owed_pure (v := (.slice A5' 18 c5)) (by simp [execOp, Act.eval, gd h0, go_sem]) hC rfl
    · obtain ⟨v21, h0, rfl⟩ := hS.dep 21 71 (by kernel_rfl) (by kernel_rfl)
      exact owed_pure (v := .int .i64 18) (by simp [execOp, Act.eval, gd h0, go_sem, resolve, invoke, builtin]) hC rfl
    · obtain ⟨v22, h0, rfl⟩ := hS.dep 22 72 (by kernel_rfl) (by kernel_rfl)
      exact owed_pure (v := .bool true) (by simp [execOp, Act.eval, gd h0, go_sem]) hC rfl
    · obtain ⟨v20, h0, rfl⟩ := hS.dep 20 70 (by kernel_rfl) (by kernel_rfl)
      obtain ⟨v23, h1, rfl⟩ := hS.dep 23 73 (by kernel_rfl) (by kernel_rfl)
      exact owed_pure (v := .bool true) (by simp [execOp, Act.eval, gd h0, gd h1, go_sem]) hC rfl
    · obtain ⟨v24, h0, rfl⟩ := hS.dep 24 74 (by kernel_rfl) (by kernel_rfl)
      exact owed_pure (v := .bool true) (by simp [execOp, Act.eval, gd h0, go_sem]) hC rfl
    · have h0 : a.tmps.getD 8 undef = .int .i64 0 := hS.base 8 (by kernel_rfl)
      exact owed_pure (v := .int .i64 0) (by simp [execOp, Act.eval, gd h0, go_sem]) hC rfl
    · obtain ⟨v26, h0, rfl⟩ := hS.dep 26 76 (by kernel_rfl) (by kernel_rfl)
      exact owed_pure (v := .bool true) (by simp [execOp, Act.eval, gd h0, go_sem]) hC rfl
    · obtain ⟨v25, h0, rfl⟩ := hS.dep 25 75 (by kernel_rfl) (by kernel_rfl)
      obtain ⟨v27, h1, rfl⟩ := hS.dep 27 77 (by kernel_rfl) (by kernel_rfl)
      exact owed_pure (v := .bool true) (by simp [execOp, Act.eval, gd h0, gd h1, go_sem]) hC rfl
    · obtain ⟨v28, h0, rfl⟩ := hS.dep 28 78 (by kernel_rfl) (by kernel_rfl)
      exact owed_pure (v := .bool true) (by simp [execOp, Act.eval, gd h0, go_sem]) hC rfl
    · have h0 : a.tmps.getD 7 undef = ptr w6.heap.size := hS.base 7 (by kernel_rfl)
      exact owed_pure (v := .agg (pm.c (.slice A7' n7 c7))) (exec_loadR (.tmp 7) rfl (by simp [Act.eval, gd h0]) (run_loadR agg27 (r7.below hC))) hC rfl
    · exact owed_call rfl (enters_of Tryz.func23 (by kernel_rfl) rfl) (by simp) (RD.behind hC _) ((ping_any W).mono fun e w' ⟨h1, h2⟩ => ⟨_, h1, rfl, h2⟩)
    · obtain ⟨v30, h0, rfl⟩ := hS.dep 30 80 (by kernel_rfl) (by kernel_rfl)
      obtain ⟨v31, h1, rfl⟩ := hS.dep 31 81 (by kernel_rfl) (by kernel_rfl)
      refine owed_call rfl (enters_of Tryz.func15 (by kernel_rfl) rfl) (by simp [Act.eval, gd h0, gd h1]) (RD.behind hC _) ((rSame_any pm pm _ _ [] [] W (s7.below hC) (Sl.nil_ _)).mono ?_)
      rintro e w' ⟨rfl, hb⟩
      exact ⟨_, rfl, by rw [same_iff.2 ⟨rfl, rfl⟩]; rfl, hb⟩
    · obtain ⟨v29, h0, rfl⟩ := hS.dep 29 79 (by kernel_rfl) (by kernel_rfl)
      obtain ⟨v32, h1, rfl⟩ := hS.dep 32 82 (by kernel_rfl) (by kernel_rfl)
      exact owed_pure (v := .bool true) (by simp [execOp, Act.eval, gd h0, gd h1, go_sem]) hC rfl
    · obtain ⟨v33, h0, rfl⟩ := hS.dep 33 83 (by kernel_rfl) (by kernel_rfl)
      exact owed_pure (v := .bool true) (by simp [execOp, Act.eval, gd h0, go_sem]) hC rfl
    · have h0 : a.tmps.getD 10 undef = .int .i64 2 := hS.base 10 (by kernel_rfl)
      exact owed_pure (v := .int .i64 2) (by simp [execOp, Act.eval, gd h0, go_sem]) hC rfl
    · obtain ⟨v35, h0, rfl⟩ := hS.dep 35 85 (by kernel_rfl) (by kernel_rfl)
      exact owed_pure (v := .bool true) (by simp [execOp, Act.eval, gd h0, go_sem]) hC rfl
    · obtain ⟨v34, h0, rfl⟩ := hS.dep 34 84 (by kernel_rfl) (by kernel_rfl)
      obtain ⟨v36, h1, rfl⟩ := hS.dep 36 86 (by kernel_rfl) (by kernel_rfl)
      exact owed_pure (v := .bool true) (by simp [execOp, Act.eval, gd h0, gd h1, go_sem]) hC rfl
    · obtain ⟨v37, h0, rfl⟩ := hS.dep 37 87 (by kernel_rfl) (by kernel_rfl)
      exact owed_pure (v := .bool true) (by simp [execOp, Act.eval, gd h0, go_sem]) hC rfl
    · have h0 : a.tmps.getD 12 undef = .int .i64 11 := hS.base 12 (by kernel_rfl)
      exact owed_pure (v := .int .i64 11) (by simp [execOp, Act.eval, gd h0, go_sem]) hC rfl
    · obtain ⟨v39, h0, rfl⟩ := hS.dep 39 89 (by kernel_rfl) (by kernel_rfl)
      exact owed_pure (v := .bool true) (by simp [execOp, Act.eval, gd h0, go_sem]) hC rfl
    · obtain ⟨v38, h0, rfl⟩ := hS.dep 38 88 (by kernel_rfl) (by kernel_rfl)
      obtain ⟨v40, h1, rfl⟩ := hS.dep 40 90 (by kernel_rfl) (by kernel_rfl)
      exact owed_pure (v := .bool true) (by simp [execOp, Act.eval, gd h0, gd h1, go_sem]) hC rfl
    · obtain ⟨v41, h0, rfl⟩ := hS.dep 41 91 (by kernel_rfl) (by kernel_rfl)
      exact owed_pure (v := .bool true) (by simp [execOp, Act.eval, gd h0, go_sem]) hC rfl
    · have h0 : a.tmps.getD 14 undef = .int .i64 12 := hS.base 14 (by kernel_rfl)
      exact owed_pure (v := .int .i64 12) (by simp [execOp, Act.eval, gd h0, go_sem]) hC rfl
    · obtain ⟨v43, h0, rfl⟩ := hS.dep 43 93 (by kernel_rfl) (by kernel_rfl)
      exact owed_pure (v := .bool true) (by simp [execOp, Act.eval, gd h0, go_sem]) hC rfl
    · obtain ⟨v42, h0, rfl⟩ := hS.dep 42 92 (by kernel_rfl) (by kernel_rfl)
      obtain ⟨v44, h1, rfl⟩ := hS.dep 44 94 (by kernel_rfl) (by kernel_rfl)
      exact owed_pure (v := .bool true) (by simp [execOp, Act.eval, gd h0, gd h1, go_sem]) hC rfl
    · obtain ⟨v45, h0, rfl⟩ := hS.dep 45 95 (by kernel_rfl) (by kernel_rfl)
      exact owed_pure (v := .bool true) (by simp [execOp, Act.eval, gd h0, go_sem]) hC rfl
    · exact owed_call rfl (enters_of Tryz.func21 (by kernel_rfl) rfl) (by simp) (RD.behind hC _) ((Most_any W).mono fun e w' ⟨h1, h2⟩ => ⟨_, h1, rfl, by rw [← h2]; exact Below.refl _ _⟩)
    · obtain ⟨v47, h0, rfl⟩ := hS.dep 47 97 (by kernel_rfl) (by kernel_rfl)
      exact owed_pure (v := .bool true) (by simp [execOp, Act.eval, gd h0, go_sem]) hC rfl
    · obtain ⟨v46, h0, rfl⟩ := hS.dep 46 96 (by kernel_rfl) (by kernel_rfl)
      obtain ⟨v48, h1, rfl⟩ := hS.dep 48 98 (by kernel_rfl) (by kernel_rfl)
      exact owed_pure (v := .bool true) (by simp [execOp, Act.eval, gd h0, gd h1, go_sem]) hC rfl
    · obtain ⟨v49, h0, rfl⟩ := hS.dep 49 99 (by kernel_rfl) (by kernel_rfl)
      exact owed_pure (v := .bool true) (by simp [execOp, Act.eval, gd h0, go_sem]) hC rfl
  · intro a W hC hA
    obtain ⟨v, h0, rfl⟩ := hA.facts 50 0 (by decide) (by kernel_rfl)
    rename_i hK
    exact hK a W (wp_ret (done_slot 0 rfl h0 hA.defers ⟨rfl, H.trans (hC.mono H.size)⟩))
end Go.Proofs.YtaacjpcckinaiaaGreat
