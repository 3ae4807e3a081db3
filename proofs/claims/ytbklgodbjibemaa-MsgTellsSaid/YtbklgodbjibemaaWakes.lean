/- The laws' first look. -/
import Derived.Test.YtbklgodbjibemaaWakeMath
import Derived.Test.YtbklgodbjibemaaSplit
set_option linter.unusedVariables false
set_option linter.unusedSimpArgs false
namespace Go.Proofs.Ytbklgodbjibemaa
open Go.RowKit Go.Shelf

/-- What lies where the three messages were made. -/
structure Lie (w V : World) (b5 b6 b7 : Nat) (s7 : Value) : Prop where
  r5 : Rw V b5 27 (wm5.c nilS)
  r6 : Rw V b6 27 (wm6.c nilS)
  r7 : Rw V b7 27 (wm7.c s7)
  sl : Sl V s7 (iv [4, 2])
  below : Below w.heap.size w V

section
variable {P : Program} {ops : Array Oper} {rest : List Oper} {a : Act} {w0 w : World} {Q : Exit → Act → World → Prop}
theorem gen_l1 {b5 : Nat} (h5 : Rw w b5 27 (wm5.c nilS)) (hB : Below w0.heap.size w0 w) (h : ∀ W, Rw W b5 27 (wm5.c nilS) → Below w0.heap.size w0 W → wpList P ops Q rest a W) : wpList P ops Q rest a w := h w h5 hB
theorem gen_l2 {b5 b6 : Nat} (h5 : Rw w b5 27 (wm5.c nilS)) (h6 : Rw w b6 27 (wm6.c nilS)) (hB : Below w0.heap.size w0 w) (h : ∀ W, Rw W b5 27 (wm5.c nilS) → Rw W b6 27 (wm6.c nilS) → Below w0.heap.size w0 W → wpList P ops Q rest a W) : wpList P ops Q rest a w := h w h5 h6 hB
theorem gen_l3 {c : Code} {b5 b6 b7 : Nat} {s7 : Value} (h : Lie w0 w b5 b6 b7 s7) (k : ∀ W, Lie w0 W b5 b6 b7 s7 → c.wp P Q a W) : c.wp P Q a w := k w h
end
theorem exec_load {P : Program} {o : Oper} {a : Act} {ty : TypeId} {w : World} {v : Value} (x : Operand) (ho : o.op = .load ty x) {p : Addr} (hx : a.eval x = .pointer (some p)) (hr : (Instr.loadAt ty (.pointer (some p))).run P w = .ok v w) : (execOp a.eval o).run P w = .ok (.value v) w := by
  unfold execOp
  simp only [ho, hx, Sem.run_bind, Sem.run_pure, Result.andThen_ok, hr]
theorem fresh (w : World) (c z : Array Value) : Rw ((w.alloc (.cells z 27)).setRow w.heap.size c) w.heap.size 27 c ∧ Below w.heap.size w ((w.alloc (.cells z 27)).setRow w.heap.size c) :=
  ⟨(Rw.new w z 27).setRow, below_setRow (box_below w _) (Nat.le_refl _) c⟩

set_option maxRecDepth 100000 in
set_option maxHeartbeats 4000000 in
theorem wakes_any (w : World) : Calls Try.prog 9 #[] w fun e w' => e = .returned (.bool true) ∧ Below w.heap.size w w' := by
  have k3 := fun w => Call_any 2 3 w
  have k0 := fun w => Call_any 2 0 w
  rw [call_yes w_call3] at k3
  rw [call_no w_call0] at k0
  have k21 := fun w => Tell_any wm5 nilS w
  rw [w_told] at k21
  have K3 := Lib.hid k3
  have K0 := Lib.hid k0
  have K21 := Lib.hid k21
  clear k3 k0 k21
  go_enter Try.func9, Try.ntmps9
  simp only [List.append_eq, List.cons_append, List.nil_append]
  go_wp2_with fail
  refine (K3.out _).mono ?_; rintro e w1 ⟨rfl, rfl⟩
  go_wp2_with fail
  refine (K0.out _).mono ?_; rintro e w2 ⟨rfl, rfl⟩
  go_wp2_with (first
    | (with_reducible show wpList _ _ _ (Oper.mk _ (Op.load 27 _) _ _ _ _ :: _) _ _
       refine wpList_loadW r5 agg27 rfl _ rfl rfl ?_)
    | (with_reducible show wpList _ _ _ (Oper.mk _ (Op.store 27 _ _) _ _ _ _ :: _) _ _
       refine wpList_storeR (c := wm5.c nilS) rfl _ _ rfl rfl rfl agg27.hi (Rw.new _ (noM.c nilS) 27) rfl (M.one _ rfl) ?_
       refine gen_l1 (fresh _ (wm5.c nilS) (noM.c nilS)).1 (fresh _ (wm5.c nilS) (noM.c nilS)).2 ?_
       intro V1 r5 hB1))
  refine (K21.out _).mono ?_; rintro e w3 ⟨rfl, hb⟩
  have r5' := r5.below hb
  have hB3 := hB1.trans (hb.mono hB1.size)
  clear r5 hB1 hb
  go_wp2_with (first
    | (with_reducible show wpList _ _ _ (Oper.mk _ (Op.store 27 _ _) _ _ _ _ :: _) _ _
       refine wpList_storeR (c := wm6.c nilS) rfl _ _ rfl rfl rfl agg27.hi (Rw.new w3 (noM.c nilS) 27) rfl (M.one _ rfl) ?_
       refine gen_l2 (r5'.below (fresh w3 (wm6.c nilS) (noM.c nilS)).2) (fresh w3 (wm6.c nilS) (noM.c nilS)).1 (hB3.trans ((fresh w3 (wm6.c nilS) (noM.c nilS)).2.mono hB3.size)) ?_
       clear r5' hB3
       intro V2 r5 r6 hB2
       have R5 := Lib.hid r5
       have R6 := Lib.hid r6
       have HB2 := Lib.hid hB2
       clear r5 r6 hB2))
  have B7 := (box_below V2 (.cells (iv [4, 2]).toArray 3)).trans ((box_below (V2.alloc (.cells (iv [4, 2]).toArray 3)) (.cells (wm7.c (.slice (some ⟨V2.heap.size, 0, none⟩) 2 2)) 27)).mono (box_below V2 (.cells (iv [4, 2]).toArray 3)).size)
  have R7 := Rw.new (V2.alloc (.cells (iv [4, 2]).toArray 3)) (wm7.c (.slice (some ⟨V2.heap.size, 0, none⟩) 2 2)) 27
  rw [World.size_alloc] at R7
  have S7 := (Sl.lit V2 (iv [4, 2]) 3 2 rfl (by decide)).alloc (.cells (wm7.c (.slice (some ⟨V2.heap.size, 0, none⟩) 2 2)) 27)
  refine gen_l3 (Lie.mk (R5.out.below B7) (R6.out.below B7) R7 S7 (HB2.out.trans (B7.mono HB2.out.size))) ?_
  clear R5 R6 HB2 R7 S7 B7
  generalize V2.heap.size = bs
  generalize w3.heap.size = b6
  generalize hb5 : w2.heap.size = b5
  intro V L
  obtain ⟨s7, hs7⟩ : ∃ s7, Value.slice (some ⟨bs, 0, none⟩) 2 2 = s7 := ⟨_, rfl⟩
  have HS7 := Lib.hid hs7
  rw [hs7] at L
  have HR5 := Lib.hid L.r5
  have HR6 := Lib.hid L.r6
  have HR7 := Lib.hid L.r7
  have HSL := Lib.hid L.sl
  have HLB := Lib.hid L.below
  clear L hs7
  generalize bs + 1 = b7 at HR7 ⊢
  have LR5 := Lib.hid (fun y => Wd.row HR5.out y)
  have LR6 := Lib.hid (fun y => Wd.row HR6.out y)
  have LR7 := Lib.hid (fun y => Wd.row HR7.out y)
  have R5 := Lib.hid (show ∀ y : Wd V, Calls Try.prog 14 #[.agg (wm5.c nilS)] y.w fun e w' => e = .returned (.bool true) ∧ ∃ z : Wd V, w' = z.w from fun y => y.call (by have := Right_any wm5 none 0 [] (by decide) y.w (Sl.nil_ y.w); rw [w_right5] at this; exact this))
  have R6 := Lib.hid (show ∀ y : Wd V, Calls Try.prog 14 #[.agg (wm6.c nilS)] y.w fun e w' => e = .returned (.bool true) ∧ ∃ z : Wd V, w' = z.w from fun y => y.call (by have := Right_any wm6 none 0 [] (by decide) y.w (Sl.nil_ y.w); rw [w_right6] at this; exact this))
  have R7 := Lib.hid (show ∀ y : Wd V, Calls Try.prog 14 #[.agg (wm7.c s7)] y.w fun e w' => e = .returned (.bool true) ∧ ∃ z : Wd V, w' = z.w from fun y => y.call (by have := Right_any wm7 (some ⟨bs, 0, none⟩) 2 [4, 2] (by decide) y.w (by show Sl y.w (.slice _ 2 2) _; rw [HS7.out]; exact Wd.sl HSL.out y); rw [w_right7, show (Value.slice (some ⟨bs, 0, none⟩) ([4, 2] : List Int).length 2) = s7 from HS7.out] at this; exact this))
  have R0 := Lib.hid (show ∀ y : Wd V, Calls Try.prog 14 #[.agg (noM.c nilS)] y.w fun e w' => e = .returned (.bool false) ∧ ∃ z : Wd V, w' = z.w from fun y => y.call (by have := Right_any noM none 0 [] (by decide) y.w (Sl.nil_ y.w); rw [w_right0] at this; exact this))
  have A5 := Lib.hid (show ∀ y : Wd V, Calls Try.prog 16 #[.agg (wm5.c nilS)] y.w fun e w' => e = .returned (.bool true) ∧ ∃ z : Wd V, w' = z.w from fun y => y.call (by have := Asks_any wm5 nilS y.w; rw [w_asks5] at this; exact this))
  have A6 := Lib.hid (show ∀ y : Wd V, Calls Try.prog 16 #[.agg (wm6.c nilS)] y.w fun e w' => e = .returned (.bool false) ∧ ∃ z : Wd V, w' = z.w from fun y => y.call (by have := Asks_any wm6 nilS y.w; rw [w_asks6] at this; exact this))
  have K5 := Lib.hid (show ∀ y : Wd V, Calls Try.prog 18 #[.agg (wm5.c nilS)] y.w fun e w' => e = .returned (.int .i64 2) ∧ ∃ z : Wd V, w' = z.w from fun y => y.call (by have := Asker_any wm5 nilS y.w; rw [w_asker5] at this; exact this))
  have K6 := Lib.hid (show ∀ y : Wd V, Calls Try.prog 18 #[.agg (wm6.c nilS)] y.w fun e w' => e = .returned (.int .i64 2) ∧ ∃ z : Wd V, w' = z.w from fun y => y.call (by have := Asker_any wm6 nilS y.w; rw [w_asker6] at this; exact this))
  have S6 := Lib.hid (show ∀ y : Wd V, Calls Try.prog 23 #[.agg (wm6.c nilS), .agg (wm6.c nilS)] y.w fun e w' => e = .returned (.bool true) ∧ ∃ z : Wd V, w' = z.w from fun y => y.call (by have := Same_any wm6 wm6 nilS nilS [] [] y.w (Sl.nil_ y.w) (Sl.nil_ y.w); rw [w_same] at this; exact this))
  have P1 := Lib.hid (show ∀ y : Wd V, Calls Try.prog 12 #[.agg wia.c] y.w fun e w' => e = .returned (.bool true) ∧ ∃ z : Wd V, w' = z.w from fun y => y.call (by have := Pair_any wia y.w; rw [w_pair1] at this; exact this))
  have P0 := Lib.hid (show ∀ y : Wd V, Calls Try.prog 12 #[.agg noIt.c] y.w fun e w' => e = .returned (.bool false) ∧ ∃ z : Wd V, w' = z.w from fun y => y.call (by have := Pair_any noIt y.w; rw [w_pair0] at this; exact this))
  have O7 := Lib.hid (show ∀ y : Wd V, Calls Try.prog 24 #[.agg (wm7.c s7)] y.w fun e w' => ∃ A n c, e = .returned (.agg (wm7.c (.slice A n c))) ∧ (∃ z : Wd V, w' = z.w) ∧ Sl w' (.slice A n c) (iv [4, 2]) from fun y =>
    (Own_any wm7 s7 [4, 2] y.w (Wd.sl HSL.out y) (by decide)).mono fun e w' ⟨A, n, c, he, hs, hb⟩ => ⟨A, n, c, he, y.on hb, hs⟩)
  have S7 := Lib.hid (show ∀ A n c (y : Wd V), Sl y.w (.slice A n c) (iv [4, 2]) → Calls Try.prog 23 #[.agg (wm7.c (.slice A n c)), .agg (wm7.c s7)] y.w fun e w' => e = .returned (.bool true) ∧ ∃ z : Wd V, w' = z.w from fun A n c y hs => y.call (by have := Same_any wm7 wm7 (.slice A n c) s7 [4, 2] [4, 2] y.w hs (Wd.sl HSL.out y); rw [w_same7] at this; exact this))
  have HBV := Lib.hid (fun y : Wd V => HLB.out.trans (y.below.mono HLB.out.size))
  clear HR5 HR6 HR7 HSL HLB HS7
  refine wp_region_split ⟨V, Below.refl _ _⟩ 61 5 (by kernel_rfl) (by rfl) (by kernel_rfl) ?_
  simp only [List.take_succ_cons, List.take_zero]
  repeat (first
    | go_big_quiet_skip
    | (go_big_quiet_want
       first
       | (with_reducible show Oper.quiet _ (Oper.mk _ (Op.load 27 _) _ _ _ _) _ _ _
          first
          | (refine quiet_load _ rfl rfl (fun y => run_loadR (c := wm5.c _) agg27 (LR5.out y)) ?_
             simp only [Act.put, List.setIfInBounds_toArray, List.set_cons_zero, List.set_cons_succ]
             go_big_quiet_on)
          | (refine quiet_load _ rfl rfl (fun y => run_loadR (c := wm6.c _) agg27 (LR6.out y)) ?_
             simp only [Act.put, List.setIfInBounds_toArray, List.set_cons_zero, List.set_cons_succ]
             go_big_quiet_on)
          | (refine quiet_load _ rfl rfl (fun y => run_loadR (c := wm7.c _) agg27 (LR7.out y)) ?_
             simp only [Act.put, List.setIfInBounds_toArray, List.set_cons_zero, List.set_cons_succ]
             go_big_quiet_on))
       | (go_big_quiet_op; first | go_big_quiet_on | (apply Exists.intro; refine ⟨fun _ => rfl, ?_⟩; go_big_quiet_on) | go_big_quiet_call ((first
            | (go_at_call_of 14 wm5; exact R5.out _) | (go_at_call_of 14 wm6; exact R6.out _) | (go_at_call_of 14 wm7; exact R7.out _) | (go_at_call 14; exact R0.out _)
            | (go_at_call_of 16 wm5; exact A5.out _) | (go_at_call_of 16 wm6; exact A6.out _) | (go_at_call_of 18 wm5; exact K5.out _) | (go_at_call_of 18 wm6; exact K6.out _)
            | (go_at_call 23; exact S6.out _) | (go_at_call_of 12 (ByteArray.mk #[97]); exact P1.out _) | (go_at_call 12; exact P0.out _))))))
  refine wpQuiet_nil ?_
  intro y f
  refine wpAny_of_held (S := fun w => ∃ z : Wd V, w = z.w) _ _ _ _ ?_
  refine wpAnyH_take (i := 62) (oi := { dst := some 85, op := .load 27 (.tmp 7), type := _, pos := _, after := _, guard := some (61, true) }) (v := .agg (wm7.c s7)) rfl (by kernel_rfl) (by kernel_rfl) (by kernel_rfl) (fun _ _ _ h => h) (Or.inl ⟨by rfl, fun w hw => ?_⟩) ⟨y, rfl⟩ ?_
  · obtain ⟨z, rfl⟩ := hw
    exact exec_load _ rfl rfl (run_loadR agg27 (LR7.out z))
  try simp only [Act.put, List.setIfInBounds_toArray, List.set_cons_zero, List.set_cons_succ]
  refine wpAnyH_take (i := 64) (oi := { dst := some 87, op := .load 27 (.tmp 7), type := _, pos := _, after := _, guard := some (61, true) }) (v := .agg (wm7.c s7)) rfl (by kernel_rfl) (by kernel_rfl) (by kernel_rfl) (fun _ _ _ h => h) (Or.inl ⟨by rfl, fun w hw => ?_⟩) ⟨y, rfl⟩ ?_
  · obtain ⟨z, rfl⟩ := hw
    exact exec_load _ rfl rfl (run_loadR agg27 (LR7.out z))
  try simp only [Act.put, List.setIfInBounds_toArray, List.set_cons_zero, List.set_cons_succ]
  refine wpAnyH_ready (rs := [63]) (by kernel_rfl) (by simp) ?_
  refine AllReadyH.cons (o := { dst := some 86, op := .call { callee := .value (.func 24), args := #[.tmp 85], argTypes := #[27] }, type := _, pos := _, after := _, guard := some (61, true) }) rfl (fun K hK => ?_) AllReadyH.nil
  rw [if_pos (by rfl)]
  go_big_op
  refine (O7.out y).mono ?_
  rintro e w' ⟨A, n, c, rfl, ⟨z, rfl⟩, hsl⟩
  refine hK.out _ _ ⟨z, rfl⟩ (fun _ => ?_)
  clear hK K
  try simp only [Act.put, List.setIfInBounds_toArray, List.set_cons_zero, List.set_cons_succ]
  refine wpAnyH_ready (rs := [65]) (by kernel_rfl) (by simp) ?_
  refine AllReadyH.cons (o := { dst := some 88, op := .call { callee := .value (.func 23), args := #[.tmp 86, .tmp 87], argTypes := #[27, 27] }, type := _, pos := _, after := _, guard := some (61, true) }) rfl (fun K hK => ?_) AllReadyH.nil
  rw [if_pos (by rfl)]
  go_big_op
  refine (S7.out A n c z hsl).mono ?_
  rintro e w' ⟨rfl, z2, rfl⟩
  refine hK.out _ _ ⟨z2, rfl⟩ (fun _ => ?_)
  clear hK K
  try simp only [Act.put, List.setIfInBounds_toArray, List.set_cons_zero, List.set_cons_succ]
  refine wpAnyH_ready (rs := [66]) (by kernel_rfl) (by simp) ?_
  refine AllReadyH.cons (o := { dst := some 89, op := .pick (.tmp 84) (.tmp 88) (.const (.bool false)), type := _, pos := _, after := _, guard := none }) rfl (fun K hK => ?_) AllReadyH.nil
  rw [if_pos (by rfl)]
  go_big_op
  refine hK.out _ _ ⟨z2, rfl⟩ (fun _ => ?_)
  clear hK K
  refine wpAnyH_ready (rs := [67]) (by kernel_rfl) (by simp) ?_
  refine AllReadyH.cons (o := { dst := some 0, op := .assign (.tmp 89), type := _, pos := _, after := _, guard := none }) rfl (fun K hK => ?_) AllReadyH.nil
  rw [if_pos (by rfl)]
  go_big_move
  refine hK.out _ _ ⟨z2, rfl⟩ (fun _ => ?_)
  clear hK K
  refine wpAnyH_done (by kernel_rfl) ?_ _
  go_wp2
  go_ret
  exact ⟨rfl, HBV.out z2⟩
end Go.Proofs.Ytbklgodbjibemaa
