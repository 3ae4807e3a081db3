/- 'MsgCalls': the walk of the law: calls of unlike nodes, and unlike ones of one, have unlike numbers; the asker is told by the number. -/
import Derived.Deep.Cut
import Derived.Test.YtbklgodbjibemaaWakes
set_option linter.unusedVariables false
set_option linter.unusedSimpArgs false
namespace Go.Proofs.Ytbklgodbjibemaa
open Go.RowKit Go.Shelf

theorem head_right (k c a b : Int) (hk : k = 2 ∨ k = 8) (ha : placeB a = true) (hb : placeB b = true) (hne : a ≠ b) : rightD (M.head k c a b) [] = callB (if k = 2 then a else b) c := by
  rw [right_eq, Bool.eq_iff_iff, rightB_iff]
  rcases hk with rfl | rfl
  · have h5 : askerI (M.head 2 c a b) = a := by simp [askerI, asksB, M.head]
    have h2 : bareM (M.head 2 c a b) = headM (M.head 2 c a b) := rfl
    have h3 : bareLL (M.head 2 c a b) [] = [] := rfl
    have h4 : hasB (M.head 2 c a b) [] = true := rfl
    unfold OkAll
    rw [h5]
    simp only [h2, h3, h4, callB, Bool.and_eq_true, decide_eq_true_eq, and_true, if_true]
    constructor
    · rintro ⟨_, _, _, _, _, h6, h7⟩; exact ⟨h6, h7⟩
    · rintro ⟨h6, h7⟩; exact ⟨by show (0 : Int) < 2; decide, by show (2 : Int) < 13; decide, ha, hb, hne, h6, h7⟩
  · have h5 : askerI (M.head 8 c a b) = b := by simp [askerI, asksB, M.head]
    have h2 : bareM (M.head 8 c a b) = headM (M.head 8 c a b) := rfl
    have h3 : bareLL (M.head 8 c a b) [] = [] := rfl
    have h4 : hasB (M.head 8 c a b) [] = true := rfl
    unfold OkAll
    rw [h5]
    simp only [h2, h3, h4, callB, Bool.and_eq_true, decide_eq_true_eq, and_true]
    constructor
    · rintro ⟨_, _, _, _, _, h6, h7⟩; exact ⟨h6, h7⟩
    · rintro ⟨h6, h7⟩; exact ⟨by show (0 : Int) < 8; decide, by show (8 : Int) < 13; decide, ha, hb, hne, h6, h7⟩

theorem wp_held_behind {P : Program} {id : Nat} {ops : Array Oper} {Q : Exit → Act → World → Prop} {a : Act} {W : World} (x : Wd W) (hm : P.follows .mixedOrders = true)
    (h : ∀ y : Wd W, wpAnyH P .any ops Q (fun w => ∃ z : Wd W, w = z.w) ops.size (Array.replicate ops.size false) a y.w) : (Code.region id ops true).wp P Q a x.w := by
  obtain ⟨y, hy⟩ := x.drew
  refine wp_region_held_drew (S := fun w => ∃ z : Wd W, w = z.w) hm ⟨y, hy⟩ (fun _ => ?_)
  rw [hy]
  exact h y
theorem wp_storeR {P : Program} {o : Oper} {a : Act} {w : World} {K : Act → World → Prop} {Q : Exit → Act → World → Prop} {b : Nat} {t ty : TypeId} {c : Array Value} (x y : Operand) (ho : o.op = .store ty x y) (hx : a.eval x = .pointer (some ⟨b, 0, none⟩)) (hy : a.eval y = .agg c) (hi : (P.info? ty).map (·.size) = some c.size) {c0 : Array Value} (h0 : Rw w b t c0) (hs : c0.size = c.size) (h1 : c.all (·.oneCell') = true)
    (hk : K (a.put o.dst undef) (w.setRow b c)) : o.wp P a w K Q := by
  unfold Oper.wp execOp
  simp only [ho, hx, hy, Sem.run_bind, Sem.run_pure, Result.andThen_ok, run_storeR hi h0 hs h1]
  exact hk
structure L4 (w X : World) (b1 b2 b3 b4 : Nat) (c1 c2 c3 c4 : Array Value) : Prop where
  r1 : Rw X b1 27 c1
  r2 : Rw X b2 27 c2
  r3 : Rw X b3 27 c3
  r4 : Rw X b4 27 c4
  n : w.heap.size ≤ b3 ∧ w.heap.size ≤ b4 ∧ b3 ≠ b4 ∧ b1 ≠ b3 ∧ b1 ≠ b4 ∧ b2 ≠ b3 ∧ b2 ≠ b4
  below : Below w.heap.size w X
section
variable {w X Y : World} {b1 b2 b3 b4 : Nat} {c1 c2 c3 c4 : Array Value} (h : L4 w X b1 b2 b3 b4 c1 c2 c3 c4)
include h
theorem L4.on (hb : Below X.heap.size X Y) : L4 w Y b1 b2 b3 b4 c1 c2 c3 c4 := ⟨h.r1.below hb, h.r2.below hb, h.r3.below hb, h.r4.below hb, h.n, h.below.trans (hb.mono h.below.size)⟩
theorem L4.set3 (j : Nat) (v : Value) : L4 w (X.setCell ⟨b3, j, none⟩ v) b1 b2 b3 b4 c1 c2 (c3.setIfInBounds j v) c4 := by
  obtain ⟨n1, n2, n3, n4, n5, n6, n7⟩ := h.n
  exact ⟨h.r1.set_other n4 j v, h.r2.set_other n6 j v, h.r3.set j v, h.r4.set_other (Ne.symm n3) j v, h.n, h.below.setCell (p := ⟨b3, j, none⟩) n1 v⟩
theorem L4.set4 (j : Nat) (v : Value) : L4 w (X.setCell ⟨b4, j, none⟩ v) b1 b2 b3 b4 c1 c2 c3 (c4.setIfInBounds j v) := by
  obtain ⟨n1, n2, n3, n4, n5, n6, n7⟩ := h.n
  exact ⟨h.r1.set_other n5 j v, h.r2.set_other n7 j v, h.r3.set_other n3 j v, h.r4.set j v, h.n, h.below.setCell (p := ⟨b4, j, none⟩) n2 v⟩
end
theorem gen_4 {P : Program} {ops : Array Oper} {rest : List Oper} {a : Act} {w X : World} {Q : Exit → Act → World → Prop} {b1 b2 b3 b4 : Nat} {c1 c2 c3 c4 : Array Value} (h : L4 w X b1 b2 b3 b4 c1 c2 c3 c4) (k : ∀ X, L4 w X b1 b2 b3 b4 c1 c2 c3 c4 → wpList P ops Q rest a X) : wpList P ops Q rest a X := k X h

set_option maxRecDepth 100000 in
set_option maxHeartbeats 4000000 in
theorem calls_bad (a b n k : Int) (W : World) (h : ¬ (callOk a n = true ∧ callOk b k = true)) : Calls Try.prog 6 #[.int .i64 a, .int .i64 b, .int .i64 n, .int .i64 k] W fun e w' => e = .returned (.bool true) ∧ Below W.heap.size W w' := by
  have WK := Lib.hid wakes_any
  obtain ⟨b0, hb0⟩ : ∃ x, callOk a n = x := ⟨_, rfl⟩
  have HB0 := Lib.hid hb0
  have cut : (decide (0 ≤ a) && (decide (a < 65536) && (decide (1 ≤ n) && decide (n ≤ 1048576)))) = b0 := by
    rw [← hb0, callOk, placeB]; simp [Bool.and_assoc]
  have CUT := Lib.hid cut
  have K1 := fun w => Call_any a n w
  cases b0
  · rw [call_no (by rw [hb0]; simp)] at K1
    have K2 := Lib.hid (fun w => Call_any b k w)
    have HK1 := Lib.hid K1
    clear K1 h hb0 cut
    go_enter Try.func6, Try.ntmps6
    go_wp2_with fail
    refine (HK1.out _).mono ?_; rintro e w1 ⟨rfl, rfl⟩
    go_wp2_with fail
    refine (K2.out _).mono ?_; rintro e w2 ⟨rfl, rfl⟩
    go_upto_region 4 with fail
    go_cut [13] from 36 (fun f wx => f = .bool false ∧ wx = w2)
    case first =>
      by_cases c1 : 0 ≤ a
      · have e1 : decide (0 ≤ a) = true := decide_eq_true c1
        have E1 := Lib.hid e1
        clear c1
        by_cases c2 : a < 65536
        · have e2 : decide (a < 65536) = true := decide_eq_true c2
          have E2 := Lib.hid e2
          clear c2
          by_cases c3 : 1 ≤ n
          · have e3 : decide (1 ≤ n) = true := decide_eq_true c3
            have E3 := Lib.hid e3
            clear c3
            go_wp2_with fail
            all_goals (go_meet; exact ⟨congrArg Value.bool (by have := CUT.out; rw [E1.out, E2.out, E3.out] at this; simpa using this), rfl⟩)
          · have e3 : decide (1 ≤ n) = false := decide_eq_false c3
            clear c3
            go_wp2_with fail
            all_goals (go_meet; exact ⟨by simp, rfl⟩)
        · have e2 : decide (a < 65536) = false := decide_eq_false c2
          clear c2
          go_wp2_with fail
          all_goals (go_meet; exact ⟨by simp, rfl⟩)
      · have e1 : decide (0 ≤ a) = false := decide_eq_false c1
        clear c1
        go_wp2_with fail
        all_goals (go_meet; exact ⟨by simp, rfl⟩)
    case rest =>
      obtain ⟨rfl, hwc⟩ := hcut
      subst hwc
      go_wp2_with fail
      refine (WK.out _).mono ?_; rintro e w3 ⟨rfl, hb⟩
      go_wp2
      go_ret
      exact ⟨rfl, hb⟩
  · rw [call_yes hb0] at K1
    have K2 := fun w => Call_any b k w
    rw [call_no (fun h2 => h ⟨hb0, h2⟩)] at K2
    have HK1 := Lib.hid K1
    have HK2 := Lib.hid K2
    have hc := callOk_iff.1 hb0
    have e1 : decide (0 ≤ a) = true := decide_eq_true (place_iff.1 hc.1).1
    have e2 : decide (a < 65536) = true := decide_eq_true (place_iff.1 hc.1).2
    have e3 : decide (1 ≤ n) = true := decide_eq_true hc.2.1
    have e4 : decide (n ≤ 1048576) = true := decide_eq_true hc.2.2
    obtain ⟨c, hcc⟩ : ∃ c, a * 1048576 + n = c := ⟨_, rfl⟩
    rw [hcc] at K1
    have HK1 := Lib.hid K1
    clear K1 K2 h hb0 cut hc hcc
    go_enter Try.func6, Try.ntmps6
    go_wp2_with fail
    refine (HK1.out _).mono ?_; rintro e w1 ⟨rfl, rfl⟩
    go_wp2_with fail
    refine (HK2.out _).mono ?_; rintro e w2 ⟨rfl, rfl⟩
    go_wp2_with fail
    refine (WK.out _).mono ?_; rintro e w3 ⟨rfl, hb⟩
    go_wp2
    go_ret
    exact ⟨rfl, hb⟩

set_option maxRecDepth 100000 in
set_option maxHeartbeats 4000000 in
theorem calls_one (a n k : Int) (W : World) (h1 : callOk a n = true) (h2 : callOk a k = true) : Calls Try.prog 6 #[.int .i64 a, .int .i64 a, .int .i64 n, .int .i64 k] W fun e w' => e = .returned (.bool true) ∧ Below W.heap.size W w' := by
  have WK := Lib.hid wakes_any
  have K1 := fun w => Call_any a n w
  have K2 := fun w => Call_any a k w
  rw [call_yes h1] at K1
  rw [call_yes h2] at K2
  obtain ⟨c, hc⟩ : ∃ c, a * 1048576 + n = c := ⟨_, rfl⟩
  obtain ⟨d, hd⟩ : ∃ c, a * 1048576 + k = c := ⟨_, rfl⟩
  rw [hc] at K1
  rw [hd] at K2
  have HK1 := Lib.hid K1
  have HK2 := Lib.hid K2
  by_cases he : n = k
  · obtain rfl : c = d := by rw [← hc, ← hd, he]
    have e1 : (n == k) = true := by simp [he]
    clear he K1 K2 h1 h2 hc hd
    go_enter Try.func6, Try.ntmps6
    go_wp2_with fail
    refine (HK1.out _).mono ?_; rintro e w1 ⟨rfl, rfl⟩
    go_wp2_with fail
    refine (HK2.out _).mono ?_; rintro e w2 ⟨rfl, rfl⟩
    go_wp2_with fail
    refine (WK.out _).mono ?_; rintro e w3 ⟨rfl, hb⟩
    go_wp2
    go_ret
    exact ⟨rfl, hb⟩
  · have e1 : (n == k) = false := by simp [he]
    have e2 : (c == d) = false := by rw [beq_eq_false_iff_ne]; omega
    clear he K1 K2 h1 h2 hc hd
    go_enter Try.func6, Try.ntmps6
    go_wp2_with fail
    refine (HK1.out _).mono ?_; rintro e w1 ⟨rfl, rfl⟩
    go_wp2_with fail
    refine (HK2.out _).mono ?_; rintro e w2 ⟨rfl, rfl⟩
    go_wp2_with fail
    refine (WK.out _).mono ?_; rintro e w3 ⟨rfl, hb⟩
    go_wp2
    go_ret
    exact ⟨rfl, hb⟩

theorem wp_allocR {P : Program} {o : Oper} {a : Act} {w : World} {K : Act → World → Prop} {Q : Exit → Act → World → Prop} {ty : TypeId} {z : Value} (ho : o.op = .alloc ty) (hz : (P.info? ty).map (·.zero) = some (some z)) (hk : K (a.put o.dst (.pointer (some ⟨w.heap.size, 0, none⟩))) (w.alloc (.cells z.cells ty))) : o.wp P a w K Q := by
  unfold Oper.wp execOp
  have hr : (Instr.alloc ty true (.tuple #[])).run P w = .ok (.pointer (some ⟨w.heap.size, 0, none⟩)) (w.alloc (.cells z.cells ty)) := by
    cases hq : P.info? ty with
    | none => simp [hq] at hz
    | some i =>
      have h : i.zero = some z := by simpa [hq] using hz
      simp [Instr.alloc, zeroValue, typeInfo, hq, h, newVar, newRow]
  simp only [ho, Sem.run_bind, Sem.run_pure, Result.andThen_ok, hr]
  exact hk
theorem zero27 : (Try.prog.info? 27).map (·.zero) = some (some (.agg (noM.c nilS))) := by kernel_rfl

set_option maxRecDepth 100000 in
set_option maxHeartbeats 8000000 in
theorem calls_main (a b n k : Int) (W : World) (h1 : callOk a n = true) (h2 : callOk b k = true) (hne : a ≠ b) : Calls Try.prog 6 #[.int .i64 a, .int .i64 b, .int .i64 n, .int .i64 k] W fun e w' => e = .returned (.bool true) ∧ Below W.heap.size W w' := by
  have WK := Lib.hid wakes_any
  have K1 := fun w => Call_any a n w
  have K2 := fun w => Call_any b k w
  rw [call_yes h1] at K1
  rw [call_yes h2] at K2
  obtain ⟨pa, n1, n2⟩ := callOk_iff.1 h1
  obtain ⟨pb, k1, k2⟩ := callOk_iff.1 h2
  obtain ⟨c, hc⟩ : ∃ c, a * 1048576 + n = c := ⟨_, rfl⟩
  obtain ⟨d, hd⟩ : ∃ c, b * 1048576 + k = c := ⟨_, rfl⟩
  rw [hc] at K1
  rw [hd] at K2
  have HK1 := Lib.hid K1
  have HK2 := Lib.hid K2
  have e1 : (a == b) = false := by simp [hne]
  have e2 : (c == d) = false := by rw [beq_eq_false_iff_ne]; omega
  have r3 := fun w => Right_any (M.head 2 c a b) none 0 [] (by show (0 : Int) ≤ 2; decide) w (Sl.nil_ w)
  have r4 := fun w => Right_any (M.head 8 d a b) none 0 [] (by show (0 : Int) ≤ 8; decide) w (Sl.nil_ w)
  have r5 := fun w => Right_any (M.head 2 d a b) none 0 [] (by show (0 : Int) ≤ 2; decide) w (Sl.nil_ w)
  have r6 := fun w => Right_any (M.head 8 c a b) none 0 [] (by show (0 : Int) ≤ 8; decide) w (Sl.nil_ w)
  rw [head_right _ _ _ _ (.inl rfl) pa pb hne, if_pos rfl, show callB a c = true by simp [callB]; omega] at r3
  rw [head_right _ _ _ _ (.inr rfl) pa pb hne, if_neg (by decide), show callB b d = true by simp [callB]; omega] at r4
  rw [head_right _ _ _ _ (.inl rfl) pa pb hne, if_pos rfl, show callB a d = false by simp [callB]; omega] at r5
  rw [head_right _ _ _ _ (.inr rfl) pa pb hne, if_neg (by decide), show callB b c = false by simp [callB]; omega] at r6
  have HK3 := Lib.hid r3
  have HK4 := Lib.hid r4
  have HK5 := Lib.hid r5
  have HK6 := Lib.hid r6
  clear K1 K2 r3 r4 r5 r6 hc hd h1 h2 hne pa pb n1 n2 k1 k2
  go_enter Try.func6, Try.ntmps6
  go_wp2_with fail
  refine (HK1.out _).mono ?_; rintro e w1 ⟨rfl, hw⟩
  subst hw
  go_wp2_with fail
  refine (HK2.out _).mono ?_; rintro e w2 ⟨rfl, hw⟩
  subst hw
  go_wp2_with fail
  obtain ⟨r14, r15, HV⟩ := two_boxes w2 ((M.head 2 c a b).c nilS) ((M.head 8 d a b).c nilS) 27 27
  have HVS : w2.heap.size + 1 + 1 = ((w2.alloc (.cells ((M.head 2 c a b).c nilS) 27)).alloc (.cells ((M.head 8 d a b).c nilS) 27)).heap.size := by simp
  refine wp_held_behind ⟨(w2.alloc (.cells ((M.head 2 c a b).c nilS) 27)).alloc (.cells ((M.head 8 d a b).c nilS) 27), Below.refl _ _⟩ (by kernel_rfl) (fun y => ?_)
  generalize (w2.alloc (.cells ((M.head 2 c a b).c nilS) 27)).alloc (.cells ((M.head 8 d a b).c nilS) 27) = V at r14 r15 HV HVS y ⊢
  have hby := y.below.size
  refine wpAnyH_take (i := 0) (oi := { dst := some 93, op := .load 27 (.tmp 14), type := _, pos := _, after := _, guard := none }) (v := .agg ((M.head 2 c a b).c nilS)) rfl (by kernel_rfl) (by kernel_rfl) (by kernel_rfl) (fun _ _ _ h => h) (Or.inl ⟨by rfl, fun w hw => ?_⟩) ⟨y, rfl⟩ ?_
  · obtain ⟨z, rfl⟩ := hw
    exact exec_load _ rfl rfl (run_loadR agg27 (Wd.row r14 z))
  try simp only [Act.put, World.size_alloc, List.setIfInBounds_toArray, List.set_cons_zero, List.set_cons_succ]
  refine wpAnyH_take (i := 1) (oi := { dst := some 94, op := .load 27 (.tmp 15), type := _, pos := _, after := _, guard := none }) (v := .agg ((M.head 8 d a b).c nilS)) rfl (by kernel_rfl) (by kernel_rfl) (by kernel_rfl) (fun _ _ _ h => h) (Or.inl ⟨by rfl, fun w hw => ?_⟩) ⟨y, rfl⟩ ?_
  · obtain ⟨z, rfl⟩ := hw
    exact exec_load _ rfl rfl (run_loadR agg27 (Wd.row r15 z))
  try simp only [Act.put, World.size_alloc, List.setIfInBounds_toArray, List.set_cons_zero, List.set_cons_succ]
  obtain ⟨R0, R1, B2⟩ := two_boxes y.w (noM.c nilS) (noM.c nilS) 27 27
  have B1 := box_below y.w (.cells (noM.c nilS) 27)
  refine wpAnyH_ready (rs := [2, 3]) (by kernel_rfl) (by simp) ?_
  refine AllReadyH.cons (o := { dst := some 16, op := .alloc 27, type := _, pos := _, after := _, guard := none }) rfl (fun K hK => ?_) (AllReadyH.cons (o := { dst := some 17, op := .alloc 27, type := _, pos := _, after := _, guard := none }) rfl (fun K hK => ?_) AllReadyH.nil)
  · rw [if_pos (by rfl)]
    refine wp_allocR rfl zero27 ?_
    refine hK.out _ _ (y.on B1) (fun _ => ?_)
    clear hK K
    try simp only [Act.put, World.size_alloc, List.setIfInBounds_toArray, List.set_cons_zero, List.set_cons_succ]
    refine wpAnyH_ready (rs := [3]) (by kernel_rfl) (by simp) ?_
    refine AllReadyH.cons (o := { dst := some 17, op := .alloc 27, type := _, pos := _, after := _, guard := none }) rfl (fun K hK => ?_) AllReadyH.nil
    rw [if_pos (by rfl)]
    refine wp_allocR rfl zero27 ?_
    refine hK.out _ _ (y.on B2) (fun _ => ?_)
    clear hK K
    try simp only [Act.put, World.size_alloc, List.setIfInBounds_toArray, List.set_cons_zero, List.set_cons_succ]
    refine wpAnyH_ready (rs := [4]) (by kernel_rfl) (by simp) ?_
    refine AllReadyH.cons (o := { dst := none, op := .store 27 (.tmp 16) (.tmp 93), type := _, pos := _, after := _, guard := none }) rfl (fun K hK => ?_) AllReadyH.nil
    rw [if_pos (by rfl)]
    refine wp_storeR (b := y.w.heap.size) (c := (M.head 2 c a b).c nilS) _ _ rfl rfl rfl agg27.hi R0 rfl (M.one _ rfl) ?_
    have B3 := below_setRow B2 (g := y.w.heap.size) (Nat.le_refl _) ((M.head 2 c a b).c nilS)
    refine hK.out _ _ (y.on B3) (fun _ => ?_)
    clear hK K
    try simp only [Act.put, World.size_alloc, List.setIfInBounds_toArray, List.set_cons_zero, List.set_cons_succ]
    refine wpAnyH_ready (rs := [5]) (by kernel_rfl) (by simp) ?_
    refine AllReadyH.cons (o := { dst := none, op := .store 27 (.tmp 17) (.tmp 94), type := _, pos := _, after := _, guard := none }) rfl (fun K hK => ?_) AllReadyH.nil
    rw [if_pos (by rfl)]
    have R4 := R1.setRow_other (g := y.w.heap.size) (c' := (M.head 2 c a b).c nilS) (by omega)
    refine wp_storeR (b := (y.w.heap.size + 1)) (c := (M.head 8 d a b).c nilS) _ _ rfl rfl rfl agg27.hi R4 rfl (M.one _ rfl) ?_
    have B4 := below_setRow B3 (g := (y.w.heap.size + 1)) (Nat.le_succ _) ((M.head 8 d a b).c nilS)
    refine hK.out _ _ (y.on B4) (fun _ => ?_)
    clear hK K
    try simp only [Act.put, World.size_alloc, List.setIfInBounds_toArray, List.set_cons_zero, List.set_cons_succ]
    refine wpAnyH_done (by kernel_rfl) ?_ _
    have LX := L4.mk (w := w2) ((Wd.row r14 y).below B4) ((Wd.row r15 y).below B4) ((R0.setRow (c' := (M.head 2 c a b).c nilS)).setRow_other (g := (y.w.heap.size + 1)) (c' := (M.head 8 d a b).c nilS) (by omega)) (R4.setRow (c' := (M.head 8 d a b).c nilS)) ⟨by omega, by omega, by omega, by omega, by omega, by omega, by omega⟩ ((HV.trans (y.below.mono HV.size)).trans (B4.mono (HV.trans (y.below.mono HV.size)).size))
    clear R0 R1 R4 B1 B2 B3 B4
    go_wp2_with (first
      | (with_reducible show wpList _ _ _ (Oper.mk _ (Op.store 3 _ _) _ _ _ _ :: _) _ _
         first
         | (refine wpList_store1 LX.r3 (by kernel_rfl) rfl _ _ rfl (j := 1) rfl (v := .int .i64 d) rfl (by show 1 < 15; decide) rfl rfl ?_
            refine gen_4 (c3 := (M.head 2 d a b).c nilS) (LX.set3 1 (.int .i64 d)) ?_
            clear LX
            intro X LX)
         | (refine wpList_store1 LX.r4 (by kernel_rfl) rfl _ _ rfl (j := 1) rfl (v := .int .i64 c) rfl (by show 1 < 15; decide) rfl rfl ?_
            refine gen_4 (c4 := (M.head 8 c a b).c nilS) (LX.set4 1 (.int .i64 c)) ?_
            clear LX
            intro X LX))
      | (with_reducible show wpList _ _ _ (Oper.mk _ (Op.load 27 _) _ _ _ _ :: _) _ _
         refine wpList_loadW LX.r1 agg27 rfl _ rfl rfl ?_))
    refine (HK3.out X).mono ?_; rintro e w5 ⟨rfl, hb⟩
    replace LX := LX.on hb
    clear hb
    go_wp2_with (first
      | (with_reducible show wpList _ _ _ (Oper.mk _ (Op.load 27 _) _ _ _ _ :: _) _ _
         refine wpList_loadW LX.r2 agg27 rfl _ rfl rfl ?_))
    refine (HK4.out _).mono ?_; rintro e w6 ⟨rfl, hb⟩
    replace LX := LX.on hb
    clear hb
    go_wp2_with (first
      | (with_reducible show wpList _ _ _ (Oper.mk _ (Op.load 27 _) _ _ _ _ :: _) _ _
         refine wpList_loadW LX.r3 agg27 rfl _ rfl rfl ?_))
    refine (HK5.out _).mono ?_; rintro e w7 ⟨rfl, hb⟩
    replace LX := LX.on hb
    clear hb
    go_wp2_with (first
      | (with_reducible show wpList _ _ _ (Oper.mk _ (Op.load 27 _) _ _ _ _ :: _) _ _
         refine wpList_loadW LX.r4 agg27 rfl _ rfl rfl ?_))
    refine (HK6.out _).mono ?_; rintro e w8 ⟨rfl, hb⟩
    replace LX := LX.on hb
    clear hb
    go_wp2_with fail
    refine (WK.out _).mono ?_; rintro e w9 ⟨rfl, hb⟩
    replace LX := LX.below.trans (hb.mono LX.below.size)
    clear hb
    go_wp2
    go_ret
    exact ⟨rfl, LX⟩

  · rw [if_pos (by rfl)]
    refine wp_allocR rfl zero27 ?_
    refine hK.out _ _ (y.on B1) (fun _ => ?_)
    clear hK K
    try simp only [Act.put, World.size_alloc, List.setIfInBounds_toArray, List.set_cons_zero, List.set_cons_succ]
    refine wpAnyH_ready (rs := [2]) (by kernel_rfl) (by simp) ?_
    refine AllReadyH.cons (o := { dst := some 16, op := .alloc 27, type := _, pos := _, after := _, guard := none }) rfl (fun K hK => ?_) AllReadyH.nil
    rw [if_pos (by rfl)]
    refine wp_allocR rfl zero27 ?_
    refine hK.out _ _ (y.on B2) (fun _ => ?_)
    clear hK K
    try simp only [Act.put, World.size_alloc, List.setIfInBounds_toArray, List.set_cons_zero, List.set_cons_succ]
    refine wpAnyH_ready (rs := [4]) (by kernel_rfl) (by simp) ?_
    refine AllReadyH.cons (o := { dst := none, op := .store 27 (.tmp 16) (.tmp 93), type := _, pos := _, after := _, guard := none }) rfl (fun K hK => ?_) AllReadyH.nil
    rw [if_pos (by rfl)]
    refine wp_storeR (b := (y.w.heap.size + 1)) (c := (M.head 2 c a b).c nilS) _ _ rfl rfl rfl agg27.hi R1 rfl (M.one _ rfl) ?_
    have B3 := below_setRow B2 (g := (y.w.heap.size + 1)) (Nat.le_succ _) ((M.head 2 c a b).c nilS)
    refine hK.out _ _ (y.on B3) (fun _ => ?_)
    clear hK K
    try simp only [Act.put, World.size_alloc, List.setIfInBounds_toArray, List.set_cons_zero, List.set_cons_succ]
    refine wpAnyH_ready (rs := [5]) (by kernel_rfl) (by simp) ?_
    refine AllReadyH.cons (o := { dst := none, op := .store 27 (.tmp 17) (.tmp 94), type := _, pos := _, after := _, guard := none }) rfl (fun K hK => ?_) AllReadyH.nil
    rw [if_pos (by rfl)]
    have R4 := R0.setRow_other (g := (y.w.heap.size + 1)) (c' := (M.head 2 c a b).c nilS) (by omega)
    refine wp_storeR (b := y.w.heap.size) (c := (M.head 8 d a b).c nilS) _ _ rfl rfl rfl agg27.hi R4 rfl (M.one _ rfl) ?_
    have B4 := below_setRow B3 (g := y.w.heap.size) (Nat.le_refl _) ((M.head 8 d a b).c nilS)
    refine hK.out _ _ (y.on B4) (fun _ => ?_)
    clear hK K
    try simp only [Act.put, World.size_alloc, List.setIfInBounds_toArray, List.set_cons_zero, List.set_cons_succ]
    refine wpAnyH_done (by kernel_rfl) ?_ _
    have LX := L4.mk (w := w2) ((Wd.row r14 y).below B4) ((Wd.row r15 y).below B4) ((R1.setRow (c' := (M.head 2 c a b).c nilS)).setRow_other (g := y.w.heap.size) (c' := (M.head 8 d a b).c nilS) (by omega)) (R4.setRow (c' := (M.head 8 d a b).c nilS)) ⟨by omega, by omega, by omega, by omega, by omega, by omega, by omega⟩ ((HV.trans (y.below.mono HV.size)).trans (B4.mono (HV.trans (y.below.mono HV.size)).size))
    clear R0 R1 R4 B1 B2 B3 B4
    go_wp2_with (first
      | (with_reducible show wpList _ _ _ (Oper.mk _ (Op.store 3 _ _) _ _ _ _ :: _) _ _
         first
         | (refine wpList_store1 LX.r3 (by kernel_rfl) rfl _ _ rfl (j := 1) rfl (v := .int .i64 d) rfl (by show 1 < 15; decide) rfl rfl ?_
            refine gen_4 (c3 := (M.head 2 d a b).c nilS) (LX.set3 1 (.int .i64 d)) ?_
            clear LX
            intro X LX)
         | (refine wpList_store1 LX.r4 (by kernel_rfl) rfl _ _ rfl (j := 1) rfl (v := .int .i64 c) rfl (by show 1 < 15; decide) rfl rfl ?_
            refine gen_4 (c4 := (M.head 8 c a b).c nilS) (LX.set4 1 (.int .i64 c)) ?_
            clear LX
            intro X LX))
      | (with_reducible show wpList _ _ _ (Oper.mk _ (Op.load 27 _) _ _ _ _ :: _) _ _
         refine wpList_loadW LX.r1 agg27 rfl _ rfl rfl ?_))
    refine (HK3.out X).mono ?_; rintro e w5 ⟨rfl, hb⟩
    replace LX := LX.on hb
    clear hb
    go_wp2_with (first
      | (with_reducible show wpList _ _ _ (Oper.mk _ (Op.load 27 _) _ _ _ _ :: _) _ _
         refine wpList_loadW LX.r2 agg27 rfl _ rfl rfl ?_))
    refine (HK4.out _).mono ?_; rintro e w6 ⟨rfl, hb⟩
    replace LX := LX.on hb
    clear hb
    go_wp2_with (first
      | (with_reducible show wpList _ _ _ (Oper.mk _ (Op.load 27 _) _ _ _ _ :: _) _ _
         refine wpList_loadW LX.r3 agg27 rfl _ rfl rfl ?_))
    refine (HK5.out _).mono ?_; rintro e w7 ⟨rfl, hb⟩
    replace LX := LX.on hb
    clear hb
    go_wp2_with (first
      | (with_reducible show wpList _ _ _ (Oper.mk _ (Op.load 27 _) _ _ _ _ :: _) _ _
         refine wpList_loadW LX.r4 agg27 rfl _ rfl rfl ?_))
    refine (HK6.out _).mono ?_; rintro e w8 ⟨rfl, hb⟩
    replace LX := LX.on hb
    clear hb
    go_wp2_with fail
    refine (WK.out _).mono ?_; rintro e w9 ⟨rfl, hb⟩
    replace LX := LX.below.trans (hb.mono LX.below.size)
    clear hb
    go_wp2
    go_ret
    exact ⟨rfl, LX⟩

theorem calls_walk (W : World) (a : Int) (_ : (Lit.int .i64 a).wf = true) (b : Int) (_ : (Lit.int .i64 b).wf = true) (n : Int) (_ : (Lit.int .i64 n).wf = true) (k : Int) (_ : (Lit.int .i64 k).wf = true) :
    Calls Try.prog 6 #[.int .i64 a, .int .i64 b, .int .i64 n, .int .i64 k] W fun e w' => e = .returned (.bool true) ∧ Below W.heap.size W w' := by
  by_cases h : callOk a n = true ∧ callOk b k = true
  · by_cases he : a = b
    · subst he
      exact calls_one a n k W h.1 h.2
    · exact calls_main a b n k W h.1 h.2 he
  · exact calls_bad a b n k W h
end Go.Proofs.Ytbklgodbjibemaa
