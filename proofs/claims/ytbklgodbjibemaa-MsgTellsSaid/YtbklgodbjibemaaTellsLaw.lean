/- 'MsgTells': the walk of the law: pairs, calls, which messages may be, asks, askers, what is told, what is the same, are as the document says. -/
import Derived.Test.YtbklgodbjibemaaWakes
set_option linter.unusedVariables false
set_option linter.unusedSimpArgs false
namespace Go.Proofs.Ytbklgodbjibemaa
open Go.RowKit Go.Shelf

theorem three_boxes (w : World) (c d z : Array Value) (t u v : TypeId) : Rw (((w.alloc (.cells c t)).alloc (.cells d u)).alloc (.cells z v)) w.heap.size t c ∧ Rw (((w.alloc (.cells c t)).alloc (.cells d u)).alloc (.cells z v)) (w.heap.size + 1) u d ∧ Rw (((w.alloc (.cells c t)).alloc (.cells d u)).alloc (.cells z v)) (w.heap.size + 1 + 1) v z ∧ Below w.heap.size w (((w.alloc (.cells c t)).alloc (.cells d u)).alloc (.cells z v)) := by
  obtain ⟨h1, h2, h3⟩ := two_boxes w c d t u
  refine ⟨h1.alloc _, h2.alloc _, ?_, h3.alloc (by simp; omega) _⟩
  have := Rw.new ((w.alloc (.cells c t)).alloc (.cells d u)) z v
  rwa [World.size_alloc, World.size_alloc] at this
/-- What lies where the three came in. -/
structure L3 (w X : World) (b1 b2 b3 : Nat) (c1 c2 c3 : Array Value) : Prop where
  r1 : Rw X b1 27 c1
  r2 : Rw X b2 27 c2
  r3 : Rw X b3 24 c3
  below : Below w.heap.size w X
theorem L3.on {w X Y : World} {b1 b2 b3 : Nat} {c1 c2 c3 : Array Value} (h : L3 w X b1 b2 b3 c1 c2 c3) (hb : Below X.heap.size X Y) : L3 w Y b1 b2 b3 c1 c2 c3 := ⟨h.r1.below hb, h.r2.below hb, h.r3.below hb, h.below.trans (hb.mono h.below.size)⟩

set_option maxRecDepth 100000 in
set_option maxHeartbeats 4000000 in
theorem tells_quick (m o : M) (A B : Option Addr) (c d : Nat) (l r : List Int) (x : It) (id n : Int) (w : World)
    (h : (decide (30 < l.length) || decide (100 < m.it.key.size)) = true ∨ (decide (30 < r.length) || decide (100 < o.it.key.size)) = true ∨ 100 < x.key.size) :
    Calls Try.prog 3 #[.agg (m.c (.slice A l.length c)), .agg (o.c (.slice B r.length d)), .agg x.c, .int .i64 id, .int .i64 n] w fun e w' => e = .returned (.bool true) ∧ Below w.heap.size w w' := by
  have WK := Lib.hid wakes_any
  obtain ⟨q1, q2, q3, q4⟩ := three_boxes w (m.c (.slice A l.length c)) (o.c (.slice B r.length d)) x.c 27 27 24
  generalize hW : ((w.alloc (.cells (m.c (.slice A l.length c)) 27)).alloc (.cells (o.c (.slice B r.length d)) 27)).alloc (.cells x.c 24) = W at q1 q2 q3 q4
  have L : L3 w W _ _ _ _ _ _ := ⟨q1, q2, q3, q4⟩
  obtain ⟨bg, hbg⟩ : ∃ b, (decide (30 < l.length) || decide (100 < m.it.key.size)) = b := ⟨_, rfl⟩
  obtain ⟨bh, hbh⟩ : ∃ b, (decide (30 < r.length) || decide (100 < o.it.key.size)) = b := ⟨_, rfl⟩
  have kg := fun w => great_any m A l.length c w
  have kh := fun w => great_any o B r.length d w
  rw [hbg] at kg h
  rw [hbh] at kh h
  have KG := Lib.hid kg
  have KH := Lib.hid kh
  clear kg kh hbg hbh q1 q2 q3 q4
  go_enter Try.func3, Try.ntmps3
  try simp only [List.append_eq, List.cons_append, List.nil_append]
  go_wp2_with (first
    | (with_reducible show wpList _ _ _ (Oper.mk _ (Op.load 27 _) _ _ _ _ :: _) _ _
       refine wpList_loadW L.r1 agg27 rfl _ rfl rfl ?_))
  refine (KG.out _).mono ?_; rintro e w1 ⟨rfl, hb⟩
  replace L := L.on hb
  clear hb hW
  cases bg
  · go_wp2_with (first
      | (with_reducible show wpList _ _ _ (Oper.mk _ (Op.load 27 _) _ _ _ _ :: _) _ _
         refine wpList_loadW L.r2 agg27 rfl _ rfl rfl ?_))
    refine (KH.out _).mono ?_; rintro e w2 ⟨rfl, hb⟩
    replace L := L.on hb
    clear hb
    have c3 := L.r3.cell
    cases bh
    · have d1 : decide ((100 : Int) < (x.key.size : Int)) = true := decide_eq_true (by rcases h with h | h | h; cases h; cases h; omega)
      clear h
      go_wp2_with fail
      refine (WK.out _).mono ?_; rintro e w3 ⟨rfl, hb⟩
      go_wp2
      go_ret
      exact ⟨rfl, L.below.trans (hb.mono L.below.size)⟩
    · clear h c3
      go_wp2_with fail
      refine (WK.out _).mono ?_; rintro e w3 ⟨rfl, hb⟩
      go_wp2
      go_ret
      exact ⟨rfl, L.below.trans (hb.mono L.below.size)⟩
  · clear h
    go_wp2_with fail
    refine (WK.out _).mono ?_; rintro e w3 ⟨rfl, hb⟩
    go_wp2
    go_ret
    exact ⟨rfl, L.below.trans (hb.mono L.below.size)⟩

set_option maxRecDepth 100000 in
set_option maxHeartbeats 8000000 in
theorem tells_main (m o : M) (A B : Option Addr) (c d : Nat) (l r : List Int) (x : It) (id n : Int) (w : World) (hk0 : 0 ≤ m.kind) (hs : Sl w (.slice A l.length c) (iv l)) (ht : Sl w (.slice B r.length d) (iv r))
    (h1 : (decide (30 < l.length) || decide (100 < m.it.key.size)) = false) (h2 : (decide (30 < r.length) || decide (100 < o.it.key.size)) = false) (h3 : ¬ 100 < x.key.size) :
    Calls Try.prog 3 #[.agg (m.c (.slice A l.length c)), .agg (o.c (.slice B r.length d)), .agg x.c, .int .i64 id, .int .i64 n] w fun e w' => e = .returned (.bool true) ∧ Below w.heap.size w w' := by
  have WK := Lib.hid wakes_any
  have hl30 : l.length ≤ 1000000 := by
    have : decide (30 < l.length) = false := by rw [Bool.or_eq_false_iff] at h1; exact h1.1
    have := of_decide_eq_false this
    omega
  obtain ⟨q1, q2, q3, q4⟩ := three_boxes w (m.c (.slice A l.length c)) (o.c (.slice B r.length d)) x.c 27 27 24
  generalize hW : ((w.alloc (.cells (m.c (.slice A l.length c)) 27)).alloc (.cells (o.c (.slice B r.length d)) 27)).alloc (.cells x.c 24) = W at q1 q2 q3 q4
  have L : L3 w W _ _ _ _ _ _ := ⟨q1, q2, q3, q4⟩
  have kg := fun w => great_any m A l.length c w
  have kh := fun w => great_any o B r.length d w
  rw [h1] at kg
  rw [h2] at kh
  have KG := Lib.hid kg
  have KH := Lib.hid kh
  have HS := Lib.hid hs
  have HT := Lib.hid ht
  have HL := Lib.hid hl30
  have HK := Lib.hid hk0
  have d1 : decide ((100 : Int) < (x.key.size : Int)) = false := decide_eq_false (by omega)
  have C1 := Lib.hid (fun w => Call_any id n w)
  have C2 := Lib.hid (fun w => rCall_any id n w)
  clear kg kh q1 q2 q3 q4 h1 h2 h3 hs ht hl30 hk0
  go_enter Try.func3, Try.ntmps3
  try simp only [List.append_eq, List.cons_append, List.nil_append]
  go_wp2_with (first
    | (with_reducible show wpList _ _ _ (Oper.mk _ (Op.load 27 _) _ _ _ _ :: _) _ _
       refine wpList_loadW L.r1 agg27 rfl _ rfl rfl ?_))
  refine (KG.out _).mono ?_; rintro e w1 ⟨rfl, hb⟩
  replace L := L.on hb
  clear hb hW
  go_wp2_with (first
    | (with_reducible show wpList _ _ _ (Oper.mk _ (Op.load 27 _) _ _ _ _ :: _) _ _
       refine wpList_loadW L.r2 agg27 rfl _ rfl rfl ?_))
  refine (KH.out _).mono ?_; rintro e w2 ⟨rfl, hb⟩
  replace L := L.on hb
  clear hb
  have c3 := L.r3.cell
  go_wp2_with fail
  refine (C1.out _).mono ?_; rintro e w3 ⟨rfl, hw⟩
  subst hw
  go_wp2_with fail
  refine (C2.out _).mono ?_; rintro e w4 ⟨rfl, hw⟩
  subst hw
  clear c3
  generalize hcc : callC id n = cc
  generalize hce : callE id n = ce
  obtain ⟨bp, hbp⟩ : ∃ b, pairB x = b := ⟨_, rfl⟩
  obtain ⟨br, hbr⟩ : ∃ b, rightB m l = b := ⟨_, rfl⟩
  obtain ⟨ba, hba⟩ : ∃ b, asksB m = b := ⟨_, rfl⟩
  obtain ⟨ia, hia⟩ : ∃ b, askerI m = b := ⟨_, rfl⟩
  obtain ⟨t, htt⟩ : ∃ b, told m = b := ⟨_, rfl⟩
  obtain ⟨bs, hbs⟩ : ∃ b, same m o l r = b := ⟨_, rfl⟩
  have LR1 := Lib.hid (fun y => Wd.row L.r1 y)
  have LR2 := Lib.hid (fun y => Wd.row L.r2 y)
  have LR3 := Lib.hid (fun y => Wd.row L.r3 y)
  have hsm := HS.out.below L.below
  have hso := HT.out.below L.below
  have P1 := Lib.hid (show ∀ y : Wd w4, Calls Try.prog 12 #[.agg x.c] y.w fun e w' => e = .returned (.bool bp) ∧ ∃ z : Wd w4, w' = z.w from fun y => y.call (by have := Pair_any x y.w; rw [hbp] at this; exact this))
  have P2 := Lib.hid (show ∀ y : Wd w4, Calls Try.prog 13 #[.agg x.c] y.w fun e w' => e = .returned (.bool bp) ∧ ∃ z : Wd w4, w' = z.w from fun y => y.call (by have := rPair_any x y.w; rw [hbp] at this; exact this))
  have R1 := Lib.hid (show ∀ y : Wd w4, Calls Try.prog 14 #[.agg (m.c (.slice A l.length c))] y.w fun e w' => e = .returned (.bool br) ∧ ∃ z : Wd w4, w' = z.w from fun y => y.call (by have := Right_any m A c l HK.out y.w (Wd.sl hsm y); rw [right_eq, hbr] at this; exact this))
  have R2 := Lib.hid (show ∀ y : Wd w4, Calls Try.prog 15 #[.agg (m.c (.slice A l.length c))] y.w fun e w' => e = .returned (.bool br) ∧ ∃ z : Wd w4, w' = z.w from fun y => y.call (by have := rRight_any m A c l HK.out y.w (Wd.sl hsm y); rw [hbr] at this; exact this))
  have A1 := Lib.hid (show ∀ y : Wd w4, Calls Try.prog 16 #[.agg (m.c (.slice A l.length c))] y.w fun e w' => e = .returned (.bool ba) ∧ ∃ z : Wd w4, w' = z.w from fun y => y.call (by have := Asks_any m (.slice A l.length c) y.w; rw [hba] at this; exact this))
  have A2 := Lib.hid (show ∀ y : Wd w4, Calls Try.prog 17 #[.agg (m.c (.slice A l.length c))] y.w fun e w' => e = .returned (.bool ba) ∧ ∃ z : Wd w4, w' = z.w from fun y => y.call (by have := rAsks_any m (.slice A l.length c) y.w; rw [hba] at this; exact this))
  have K1 := Lib.hid (show ∀ y : Wd w4, Calls Try.prog 18 #[.agg (m.c (.slice A l.length c))] y.w fun e w' => e = .returned (.int .i64 ia) ∧ ∃ z : Wd w4, w' = z.w from fun y => y.call (by have := Asker_any m (.slice A l.length c) y.w; rw [hia] at this; exact this))
  have K2 := Lib.hid (show ∀ y : Wd w4, Calls Try.prog 19 #[.agg (m.c (.slice A l.length c))] y.w fun e w' => e = .returned (.int .i64 ia) ∧ ∃ z : Wd w4, w' = z.w from fun y => y.call (by have := rAsker_any m (.slice A l.length c) y.w; rw [hia] at this; exact this))
  have T1 := Lib.hid (show ∀ y : Wd w4, Calls Try.prog 21 #[.agg (m.c (.slice A l.length c))] y.w fun e w' => e = .returned (.agg (t.c nilS)) ∧ ∃ z : Wd w4, w' = z.w from fun y => y.call (by have := Tell_any m (.slice A l.length c) y.w; rw [htt] at this; exact this))
  have T2 := Lib.hid (show ∀ y : Wd w4, Calls Try.prog 22 #[.agg (m.c (.slice A l.length c))] y.w fun e w' => e = .returned (.agg (t.c nilS)) ∧ ∃ z : Wd w4, w' = z.w from fun y => y.call (by have := rTell_any m (.slice A l.length c) y.w; rw [htt] at this; exact this))
  have S1 := Lib.hid (show ∀ y : Wd w4, Calls Try.prog 20 #[.agg (t.c nilS), .agg (t.c nilS)] y.w fun e w' => e = .returned (.bool true) ∧ ∃ z : Wd w4, w' = z.w from fun y => y.call (by have := rSame_any t t nilS nilS [] [] y.w (Sl.nil_ y.w) (Sl.nil_ y.w); rw [show same t t [] [] = true from same_iff.2 ⟨rfl, rfl⟩] at this; exact this))
  have S2 := Lib.hid (show ∀ y : Wd w4, Calls Try.prog 23 #[.agg (m.c (.slice A l.length c)), .agg (o.c (.slice B r.length d))] y.w fun e w' => e = .returned (.bool bs) ∧ ∃ z : Wd w4, w' = z.w from fun y => y.call (by have := Same_any m o _ _ l r y.w (Wd.sl hsm y) (Wd.sl hso y); rw [hbs] at this; exact this))
  have S3 := Lib.hid (show ∀ y : Wd w4, Calls Try.prog 20 #[.agg (m.c (.slice A l.length c)), .agg (o.c (.slice B r.length d))] y.w fun e w' => e = .returned (.bool bs) ∧ ∃ z : Wd w4, w' = z.w from fun y => y.call (by have := rSame_any m o _ _ l r y.w (Wd.sl hsm y) (Wd.sl hso y); rw [hbs] at this; exact this))
  have O1 := Lib.hid (show ∀ y : Wd w4, Calls Try.prog 24 #[.agg (m.c (.slice A l.length c))] y.w fun e w' => ∃ A n c, e = .returned (.agg (m.c (.slice A n c))) ∧ (∃ z : Wd w4, w' = z.w) ∧ Sl w' (.slice A n c) (iv l) from fun y =>
    (Own_any m (.slice A l.length c) l y.w (Wd.sl hsm y) HL.out).mono fun e w' ⟨A, n, c, he, hs, hb⟩ => ⟨A, n, c, he, y.on hb, hs⟩)
  have S4 := Lib.hid (show ∀ A' n' c' (y : Wd w4), Sl y.w (.slice A' n' c') (iv l) → Calls Try.prog 20 #[.agg (m.c (.slice A' n' c')), .agg (m.c (.slice A l.length c))] y.w fun e w' => e = .returned (.bool true) ∧ ∃ z : Wd w4, w' = z.w from fun A' n' c' y hs => y.call (by have := rSame_any m m (.slice A' n' c') (.slice A l.length c) l l y.w hs (Wd.sl hsm y); rw [show same m m l l = true from same_iff.2 ⟨rfl, rfl⟩] at this; exact this))
  have W9 := Lib.hid (fun y : Wd w4 => y.call (WK.out y.w))
  have HBV := Lib.hid (fun y : Wd w4 => (L.on y.below).below)
  clear hbp hbr hba hia htt hbs hsm hso hcc hce L
  go_wp2_with fail
  refine wp_region_split ⟨w4, Below.refl _ _⟩ 52 8 (by kernel_rfl) (by rfl) (by kernel_rfl) ?_
  simp only [List.take_succ_cons, List.take_zero]
  repeat (first
    | go_big_quiet_skip
    | (go_big_quiet_want
       first
       | (with_reducible show Oper.quiet _ (Oper.mk _ (Op.load 27 _) _ _ _ _) _ _ _
          first
          | (refine quiet_load _ rfl rfl (fun y => run_loadR (c := m.c _) agg27 (LR1.out y)) ?_
             simp only [Act.put, List.setIfInBounds_toArray, List.set_cons_zero, List.set_cons_succ]
             go_big_quiet_on)
          | (refine quiet_load _ rfl rfl (fun y => run_loadR (c := o.c _) agg27 (LR2.out y)) ?_
             simp only [Act.put, List.setIfInBounds_toArray, List.set_cons_zero, List.set_cons_succ]
             go_big_quiet_on))
       | (with_reducible show Oper.quiet _ (Oper.mk _ (Op.load 24 _) _ _ _ _) _ _ _
          refine quiet_load _ rfl rfl (fun y => run_loadR (c := x.c) agg24 (LR3.out y)) ?_
          simp only [Act.put, List.setIfInBounds_toArray, List.set_cons_zero, List.set_cons_succ]
          go_big_quiet_on)
       | (go_big_quiet_op; first | go_big_quiet_on | (apply Exists.intro; refine ⟨fun _ => rfl, ?_⟩; go_big_quiet_on) | go_big_quiet_call ((first
            | (go_at_call 12; exact P1.out _) | (go_at_call 13; exact P2.out _) | (go_at_call 14; exact R1.out _) | (go_at_call 15; exact R2.out _) | (go_at_call 16; exact A1.out _) | (go_at_call 17; exact A2.out _)
            | (go_at_call 18; exact K1.out _) | (go_at_call 19; exact K2.out _) | (go_at_call 21; exact T1.out _) | (go_at_call 22; exact T2.out _) | (go_at_call_of 20 t; exact S1.out _) | (go_at_call 20; exact S3.out _) | (go_at_call 23; exact S2.out _))))))
  refine wpQuiet_nil ?_
  intro y f
  refine wpAny_of_held (S := fun w => ∃ z : Wd w4, w = z.w) _ _ _ _ ?_
  refine wpAnyH_take (i := 53) (oi := { dst := some 93, op := .load 27 (.tmp 5), type := _, pos := _, after := _, guard := some (52, true) }) (v := .agg (m.c (.slice A l.length c))) rfl (by kernel_rfl) (by kernel_rfl) (by kernel_rfl) (fun _ _ _ h => h) (Or.inl ⟨by rfl, fun w hw => ?_⟩) ⟨y, rfl⟩ ?_
  · obtain ⟨z, rfl⟩ := hw
    exact exec_load _ rfl rfl (run_loadR agg27 (LR1.out z))
  try simp only [Act.put, List.setIfInBounds_toArray, List.set_cons_zero, List.set_cons_succ]
  refine wpAnyH_take (i := 55) (oi := { dst := some 95, op := .load 27 (.tmp 5), type := _, pos := _, after := _, guard := some (52, true) }) (v := .agg (m.c (.slice A l.length c))) rfl (by kernel_rfl) (by kernel_rfl) (by kernel_rfl) (fun _ _ _ h => h) (Or.inl ⟨by rfl, fun w hw => ?_⟩) ⟨y, rfl⟩ ?_
  · obtain ⟨z, rfl⟩ := hw
    exact exec_load _ rfl rfl (run_loadR agg27 (LR1.out z))
  try simp only [Act.put, List.setIfInBounds_toArray, List.set_cons_zero, List.set_cons_succ]
  refine wpAnyH_ready (rs := [54]) (by kernel_rfl) (by simp) ?_
  refine AllReadyH.cons (o := { dst := some 94, op := .call { callee := .value (.func 24), args := #[.tmp 93], argTypes := #[27] }, type := _, pos := _, after := _, guard := some (52, true) }) rfl (fun K hK => ?_) AllReadyH.nil
  rw [if_pos (by rfl)]
  go_big_op
  refine (O1.out y).mono ?_
  rintro e w' ⟨A', n', c', rfl, ⟨z, rfl⟩, hsl⟩
  refine hK.out _ _ ⟨z, rfl⟩ (fun _ => ?_)
  clear hK K
  try simp only [Act.put, List.setIfInBounds_toArray, List.set_cons_zero, List.set_cons_succ]
  refine wpAnyH_ready (rs := [56]) (by kernel_rfl) (by simp) ?_
  refine AllReadyH.cons (o := { dst := some 96, op := .call { callee := .value (.func 20), args := #[.tmp 94, .tmp 95], argTypes := #[27, 27] }, type := _, pos := _, after := _, guard := some (52, true) }) rfl (fun K hK => ?_) AllReadyH.nil
  rw [if_pos (by rfl)]
  go_big_op
  refine (S4.out A' n' c' z hsl).mono ?_
  rintro e w' ⟨rfl, z2, rfl⟩
  refine hK.out _ _ ⟨z2, rfl⟩ (fun _ => ?_)
  clear hK K
  try simp only [Act.put, List.setIfInBounds_toArray, List.set_cons_zero, List.set_cons_succ]
  refine wpAnyH_ready (rs := [57]) (by kernel_rfl) (by simp) ?_
  refine AllReadyH.cons (o := { dst := some 97, op := .pick (.tmp 92) (.tmp 96) (.const (.bool false)), type := _, pos := _, after := _, guard := none }) rfl (fun K hK => ?_) AllReadyH.nil
  rw [if_pos (by rfl)]
  go_big_op
  refine hK.out _ _ ⟨z2, rfl⟩ (fun _ => ?_)
  clear hK K
  refine wpAnyH_ready (rs := [58]) (by kernel_rfl) (by simp) ?_
  refine AllReadyH.cons (o := { dst := some 98, op := .move (.tmp 97), type := _, pos := _, after := _, guard := none }) rfl (fun K hK => ?_) AllReadyH.nil
  rw [if_pos (by rfl)]
  go_big_move
  refine hK.out _ _ ⟨z2, rfl⟩ (fun _ => ?_)
  clear hK K
  refine wpAnyH_ready (rs := [59]) (by kernel_rfl) (by simp) ?_
  refine AllReadyH.cons (o := { dst := some 99, op := .call { callee := .value (.func 9), args := #[], argTypes := #[] }, type := _, pos := _, after := _, guard := some (58, true) }) rfl (fun K hK => ?_) AllReadyH.nil
  rw [if_pos (by rfl)]
  go_big_op
  refine (W9.out z2).mono ?_
  rintro e w' ⟨rfl, z3, rfl⟩
  refine hK.out _ _ ⟨z3, rfl⟩ (fun _ => ?_)
  clear hK K
  try simp only [Act.put, List.setIfInBounds_toArray, List.set_cons_zero, List.set_cons_succ]
  refine wpAnyH_ready (rs := [60]) (by kernel_rfl) (by simp) ?_
  refine AllReadyH.cons (o := { dst := some 100, op := .pick (.tmp 98) (.tmp 99) (.const (.bool false)), type := _, pos := _, after := _, guard := none }) rfl (fun K hK => ?_) AllReadyH.nil
  rw [if_pos (by rfl)]
  go_big_op
  refine hK.out _ _ ⟨z3, rfl⟩ (fun _ => ?_)
  clear hK K
  refine wpAnyH_ready (rs := [61]) (by kernel_rfl) (by simp) ?_
  refine AllReadyH.cons (o := { dst := some 10, op := .assign (.tmp 100), type := _, pos := _, after := _, guard := none }) rfl (fun K hK => ?_) AllReadyH.nil
  rw [if_pos (by rfl)]
  go_big_move
  refine hK.out _ _ ⟨z3, rfl⟩ (fun _ => ?_)
  clear hK K
  refine wpAnyH_done (by kernel_rfl) ?_ _
  go_wp2
  go_ret
  exact ⟨rfl, HBV.out z3⟩

theorem tells_walk (W : World) (m : M) (u : Value) (l : List Int) (hs : Sl W u (iv l)) (hk0 : 0 ≤ m.kind) (o : M) (v : Value) (r : List Int) (ht : Sl W v (iv r)) (_ : 0 ≤ o.kind) (x : It) (id : Int) (_ : (Lit.int .i64 id).wf = true) (n : Int) (_ : (Lit.int .i64 n).wf = true) :
    Calls Try.prog 3 #[.agg (m.c u), .agg (o.c v), .agg x.c, .int .i64 id, .int .i64 n] W fun e w' => e = .returned (.bool true) ∧ Below W.heap.size W w' := by
  obtain ⟨A, k, c, rfl⟩ := hs.slice
  obtain ⟨rfl, _⟩ := hs.llen
  obtain ⟨B, k2, d, rfl⟩ := ht.slice
  obtain ⟨rfl, _⟩ := ht.llen
  by_cases h : (decide (30 < l.length) || decide (100 < m.it.key.size)) = true ∨ (decide (30 < r.length) || decide (100 < o.it.key.size)) = true ∨ 100 < x.key.size
  · exact tells_quick m o A B c d l r x id n W h
  · exact tells_main m o A B c d l r x id n W hk0 hs ht (by rw [Bool.eq_false_iff]; exact fun h' => h (.inl h')) (by rw [Bool.eq_false_iff]; exact fun h' => h (.inr (.inl h'))) (fun h' => h (.inr (.inr h')))
end Go.Proofs.Ytbklgodbjibemaa
